package txn

import (
	"bytes"
	"fmt"
	"math"
	"math/rand/v2"
	"slices"
	"strings"
	"testing"

	"sawyer/api"
	"sawyer/cat"
	"sawyer/disk"
	"sawyer/edit"
	"sawyer/lsm"
)

func want(t *testing.T, what string, f, want api.Errno) {
	t.Helper()
	if f != want {
		t.Fatalf("%s: %v, not %v", what, f, want)
	}
}

// tells fails, unless a list is told by these words.
func tells(t *testing.T, what string, l []api.Entry, words string) {
	t.Helper()
	if !allAlike(l, list(words)) {
		t.Fatalf("%s: %s, not %s", what, told(l), words)
	}
}

// The chapter's example: the second one is refused where it commits, since a Put hangs on nobody else.
func TestExample(t *testing.T) {
	w := newWorld(t, room)
	first, second := w.mustBegin(), w.mustBegin()
	first.does("a=x")
	n, f := first.commit()
	if n != 1 || f != api.OK {
		t.Fatal(n, f)
	}
	want(t, "the second one's Put", second.put([]byte("a"), []byte("y")), api.OK)
	n, f = second.commit()
	if n != 0 || f != api.ErrConflict {
		t.Fatal(n, f)
	}
	tells(t, "behind both", w.e.Scan(nil, nil, 9), "a1=x")
	w.unpinned("behind both")
}

// P14.1: it begins at the Seq that was written last, whatever was flushed, and also in an engine that was opened again.
func TestBegin(t *testing.T) {
	w := newWorld(t, room)
	for i, batch := range []string{"", "a=x", "b=y a!", "c=z"} {
		if batch != "" {
			w.writes(batch)
		}
		b := w.mustBegin()
		if b.x.Seq() != i {
			t.Fatalf("it began at %d, not %d", b.x.Seq(), i)
		}
		again := w.mustBegin()
		if again.x == b.x || again.x.Seq() != i {
			t.Fatalf("another one began at %d, not %d", again.x.Seq(), i)
		}
		w.flush()
		if b.x.Seq() != i {
			t.Fatalf("behind a flush its Seq is %d, not %d", b.x.Seq(), i)
		}
	}
	if got := pins(w.e); got != "2*3 2*2 2*1 2*0" {
		t.Fatalf("pinned is %q", got)
	}
	b := opened(t, room, w.d).mustBegin()
	if b.x.Seq() != 3 {
		t.Fatalf("opened again it began at %d", b.x.Seq())
	}
	tells(t, "opened again", b.scan(nil, nil), "b2=y c3=z")
}

// P14.1: Pin's error.
func TestBeginNone(t *testing.T) {
	for i, e := range []*lsm.Engine{nil, {}, new(lsm.Engine)} {
		if x, f := Begin(e); x != nil || f != api.ErrArg {
			t.Errorf("%d: %v %v", i, x, f)
		}
	}
}

// P14.1: with sixteen other Seqs pinned there is none; with fifteen, or where its own one is among the sixteen, there is.
func TestBeginPinned(t *testing.T) {
	w := newWorld(t, room)
	var all []*both
	for i := range 16 {
		all = append(all, w.mustBegin())
		if i < 15 {
			w.writes(fmt.Sprintf("a=%d", i))
		}
	}
	want(t, "of the same Seq", w.mustBegin().abort(), api.OK)
	w.writes("a=x")
	for range 3 {
		_, f := w.begin()
		want(t, "with sixteen others", f, api.ErrArg)
	}
	want(t, "the first one", all[0].abort(), api.OK)
	last := w.mustBegin()
	_, f := last.commit()
	want(t, "the last one", f, api.OK)
	last = w.mustBegin()
	if got := pins(w.e); got != "1*16 1*15 1*14 1*13 1*12 1*11 1*10 1*9 1*8 1*7 1*6 1*5 1*4 1*3 1*2 1*1" {
		t.Fatalf("pinned is %q", got)
	}
	tells(t, "the last one", last.scan(nil, nil), "a16=x")
}

// Pins that nobody's transaction made are as others'.
func TestBeginOtherPins(t *testing.T) {
	w := newWorld(t, room)
	for i := range 16 {
		w.e.Pin()
		w.e2.Pin()
		w.writes(fmt.Sprintf("a=%d", i))
	}
	_, f := w.begin()
	want(t, "with sixteen others", f, api.ErrArg)
	w.e.Unpin(3)
	w.e2.Unpin(3)
	b := w.mustBegin()
	want(t, "a pin of somebody else", w.e.Unpin(16), api.OK)
	want(t, "one that was unpinned meanwhile", b.x.Abort(), api.OK)
	want(t, "it is pinned no more", w.e.Unpin(16), api.ErrArg)
}

// asked is what each call answers of a transaction, with arguments that may be and with such that may not.
func asked(x *Txn) string {
	var out []string
	note := func(what string, f api.Errno, rest ...any) {
		out = append(out, fmt.Sprintf("%s%d%v", what, f, rest))
	}
	for _, key := range [][]byte{[]byte("a"), []byte("new"), nil, {}, sample(64), sample(65)} {
		v, f := x.Get(key)
		note("Get", f, v)
		note("Scan", 0, len(x.Scan(key, nil)), len(x.Scan(nil, key)))
		for _, value := range [][]byte{nil, sample(1024), sample(1025)} {
			note("Put", x.Put(key, value))
		}
		note("Delete", x.Delete(key))
		note("Guard", x.Guard(key))
	}
	n, f := x.Commit()
	note("Commit", f, n)
	note("Abort", x.Abort())
	return strings.Join(out, " ")
}

// refused is what asked tells, if each call answers this error.
func refused(f api.Errno) string {
	var out []string
	for range 6 {
		out = append(out, fmt.Sprintf("Get%d[[]] Scan0[0 0]", f))
		for _, what := range []string{"Put", "Put", "Put", "Delete", "Guard"} {
			out = append(out, fmt.Sprintf("%s%d[]", what, f))
		}
	}
	return strings.Join(out, " ") + fmt.Sprintf(" Commit%d[0] Abort%d[]", f, f)
}

// An ending is a way in which a transaction ends.
type ending struct {
	what string
	do   func(b *both) api.Errno
	want api.Errno
}

func committed(b *both) api.Errno { _, f := b.commit(); return f }

// powerless cuts both disks at once, and commits.
func powerless(b *both) api.Errno {
	b.d.Cut(0)
	b.d2.Cut(0)
	return committed(b)
}

// endings are all the ways; the world's disk has no room for a great batch.
func endings() []ending {
	return []ending{
		{"Commit of nothing", committed, api.OK},
		{"Commit of guards", func(b *both) api.Errno { return committed(b.guards("a c")) }, api.OK},
		{"Commit", func(b *both) api.Errno { return committed(b.does("c=x a!")) }, api.OK},
		{"Commit with guards", func(b *both) api.Errno { return committed(b.does("c=x").guards("a d")) }, api.OK},
		{"Commit of what another one wrote", func(b *both) api.Errno {
			b.does("a=y")
			b.writes("a=x")
			return committed(b)
		}, api.ErrConflict},
		{"Commit of what another one wrote, guarded", func(b *both) api.Errno {
			b.does("c=y").guards("a")
			b.writes("a=x")
			return committed(b)
		}, api.ErrConflict},
		{"Commit without room", func(b *both) api.Errno {
			for i := range 20 {
				b.put([]byte{byte(i)}, sample(1024))
			}
			return committed(b)
		}, api.ErrNoSpace},
		{"Commit without power", func(b *both) api.Errno { return powerless(b.does("c=y")) }, api.ErrPower},
		{"Commit of nothing without power", powerless, api.OK},
		{"Abort", (*both).abort, api.OK},
		{"Abort of writes and guards", func(b *both) api.Errno { return b.does("c=x a!").guards("a d").abort() }, api.OK},
		{"Abort without power", func(b *both) api.Errno {
			b.does("c=x")
			b.d.Cut(0)
			b.d2.Cut(0)
			return b.abort()
		}, api.OK},
	}
}

// P14.1, P14.5: whatever Commit or Abort answers, it has ended behind that: its own pin is gone, no other one, and nothing more is done.
func TestEnds(t *testing.T) {
	for _, x := range endings() {
		w := newWorld(t, 20000)
		w.writes("a=o", "b=p")
		other := w.mustBegin()
		b := w.mustBegin()
		want(t, x.what, x.do(b), x.want)
		was := files(w.d)
		for range 2 {
			if got := asked(b.x); got != refused(api.ErrDone) {
				t.Fatalf("behind %s: %s", x.what, got)
			}
			if b.x.Seq() != 2 {
				t.Fatalf("behind %s its Seq is %d", x.what, b.x.Seq())
			}
		}
		if files(w.d) != was {
			t.Fatalf("behind %s: what is asked of it is written", x.what)
		}
		tells(t, "the other one, behind "+x.what, other.scan(nil, nil), "a1=o b2=p")
		if got := pins(w.e); got != "1*2" {
			t.Fatalf("behind %s %q is pinned", x.what, got)
		}
	}
}

// P14.1: what has ended stays so, when others go on at its Seq and the engine goes on.
func TestEndsOnce(t *testing.T) {
	for _, x := range endings() {
		w := newWorld(t, 20000)
		w.writes("a=o", "b=p")
		b := w.mustBegin()
		if x.want == api.ErrPower || strings.Contains(x.what, "without power") {
			continue // behind it nothing can be written
		}
		want(t, x.what, x.do(b), x.want)
		w.mustBegin().does("e=q").commit()
		w.mustBegin()
		w.flush()
		if got := asked(b.x); got != refused(api.ErrDone) || b.x.Seq() != 2 {
			t.Fatalf("behind %s: %d %s", x.what, b.x.Seq(), got)
		}
		w.unpinned(x.what)
	}
}

// One that has ended keeps nothing but its Seq, since no more is asked of it.
func TestLetsGo(t *testing.T) {
	for _, x := range endings() {
		w := newWorld(t, 20000)
		w.writes("a=o", "b=p")
		b := w.mustBegin()
		x.do(b)
		if b.x.engine != nil || b.x.writes != nil || b.x.guards != nil {
			t.Errorf("%s: %+v", x.what, b.x)
		}
	}
}

// P14.1: a nil one, and one that Begin has not made.
func TestNone(t *testing.T) {
	for i, x := range []*Txn{nil, {}, new(Txn)} {
		for range 2 {
			if got := asked(x); got != refused(api.ErrArg) {
				t.Fatalf("%d: %s", i, got)
			}
			if x.Seq() != 0 {
				t.Fatalf("%d: its Seq is %d", i, x.Seq())
			}
			want(t, "Abort", x.Abort(), api.ErrArg)
		}
	}
}

// A keyCase is a key, and whether a batch may have it.
type keyCase struct {
	key  []byte
	want api.Errno
}

func keyCases() []keyCase {
	return []keyCase{
		{nil, api.ErrArg}, {[]byte{}, api.ErrArg}, {[]byte("a"), api.OK}, {[]byte{0}, api.OK}, {[]byte{255}, api.OK},
		{sample(63), api.OK}, {sample(64), api.OK}, {make([]byte, 64), api.OK},
		{sample(65), api.ErrArg}, {make([]byte, 65), api.ErrArg}, {sample(66), api.ErrArg}, {sample(5000), api.ErrArg},
	}
}

// P14.2: which keys and values may be written, and which keys guarded.
func TestSizes(t *testing.T) {
	values := map[int]api.Errno{0: api.OK, 1: api.OK, 1023: api.OK, 1024: api.OK, 1025: api.ErrArg, 1026: api.ErrArg, 70000: api.ErrArg}
	for _, k := range keyCases() {
		for size, wanted := range values {
			if k.want != api.OK {
				wanted = k.want
			}
			w := newWorld(t, room)
			b := w.mustBegin()
			want(t, fmt.Sprintf("Put of %d and %d bytes", len(k.key), size), b.put(k.key, sample(size)), wanted)
			b.reads()
			n, f := b.commit()
			if f != api.OK || (n == 1) != (wanted == api.OK) {
				t.Fatalf("Commit of %d and %d bytes: %d %v", len(k.key), size, n, f)
			}
		}
		w := newWorld(t, room)
		b := w.mustBegin()
		want(t, fmt.Sprintf("Guard of %d bytes", len(k.key)), b.guard(k.key), k.want)
		want(t, fmt.Sprintf("Delete of %d bytes", len(k.key)), b.delete(k.key), k.want)
		b.reads()
		n, f := b.commit()
		if f != api.OK || (n == 1) != (k.want == api.OK) {
			t.Fatalf("Commit of Delete of %d bytes: %d %v", len(k.key), n, f)
		}
	}
}

// P14.2: what is refused leaves what was written before.
func TestRefusedStays(t *testing.T) {
	w := newWorld(t, room)
	w.writes("a=o b=o c=o")
	b := w.mustBegin().does("a=x b!")
	want(t, "Put of a", b.put([]byte("a"), sample(1025)), api.ErrArg)
	want(t, "Put of b", b.put([]byte("b"), sample(1025)), api.ErrArg)
	want(t, "Put of c", b.put([]byte("c"), sample(1025)), api.ErrArg)
	want(t, "Put of d", b.put([]byte("d"), sample(1025)), api.ErrArg)
	want(t, "Put of nothing", b.put(nil, []byte("x")), api.ErrArg)
	tells(t, "Scan", b.scan(nil, nil), "a0=x c1=o")
	b.commit()
	tells(t, "committed", w.e.Scan(nil, nil, 9), "a2=x c1=o")
	if w.e.Newest([]byte("c")) != 1 || w.e.Newest([]byte("d")) != 0 {
		t.Fatal("what was refused is written")
	}
}

// P14.2: of what is written for one key the last counts.
func TestInThePlace(t *testing.T) {
	for _, c := range []struct{ words, want string }{
		{"a=x a=y", "a2=y"},
		{"a=x a!", ""},
		{"a! a=x", "a2=x"},
		{"a=x a! a=z", "a2=z"},
		{"a! a=x a!", ""},
		{"a! a!", ""},
		{"a=x a", "a2"},
		{"a a=x", "a2=x"},
	} {
		for _, before := range []string{"a=o", "b=o"} {
			w := newWorld(t, room)
			w.writes(before)
			b := w.mustBegin().does(c.words)
			b.reads()
			n, f := b.commit()
			if n != 2 || f != api.OK {
				t.Fatal(n, f)
			}
			if w.e.Waiting() != 2 || w.e.Newest([]byte("a")) != 2 {
				t.Fatalf("%s: %d entries, the newest of a is %d", c.words, w.e.Waiting(), w.e.Newest([]byte("a")))
			}
			wanted := c.want
			if before == "b=o" {
				wanted += " b1=o"
			}
			tells(t, c.words, w.e.Scan(nil, nil, 9), wanted)
		}
	}
}

// nth is the i-th of many keys, which do not rise with i.
func nth(i int) []byte { return []byte{byte(i * 7), byte(i >> 8), byte(i)} }

// P14.2: 256 keys, and no 257th; those that are written may be written again.
func TestMostKeys(t *testing.T) {
	for _, gone := range []bool{false, true} {
		w := newWorld(t, room)
		b := w.mustBegin()
		write := func(i int) api.Errno {
			if gone != (i%3 == 0) {
				return b.delete(nth(i))
			}
			return b.put(nth(i), []byte{byte(i)})
		}
		for i := range 256 {
			want(t, fmt.Sprintf("key %d", i+1), write(i), api.OK)
		}
		for i := 256; i < 262; i++ {
			want(t, "a 257th key", write(i), api.ErrArg)
		}
		for i := range 256 {
			want(t, "Put once more", b.put(nth(i), []byte("x")), api.OK)
			want(t, "once more", write(i), api.OK)
		}
		want(t, "a 257th key", b.put([]byte("new"), nil), api.ErrArg)
		want(t, "a 257th key", b.delete([]byte("new")), api.ErrArg)
		want(t, "a guard", b.guard([]byte("new")), api.OK)
		b.reads()
		if n, f := b.commit(); n != 1 || f != api.OK {
			t.Fatal(n, f)
		}
		if w.e.Waiting() != 256 {
			t.Fatalf("%d are written", w.e.Waiting())
		}
	}
}

// P14.2: 256 guarded keys, beside those that are written, and no 257th; those that are guarded may be so again.
func TestMostGuards(t *testing.T) {
	for _, late := range []int{-1, 0, 100, 255, 256} {
		w := newWorld(t, room)
		b := w.mustBegin()
		for i := range 256 {
			want(t, fmt.Sprintf("key %d", i+1), b.guard(nth(i)), api.OK)
		}
		want(t, "a 257th key", b.guard(nth(256)), api.ErrArg)
		want(t, "a 258th key", b.guard([]byte("new")), api.ErrArg)
		for i := range 256 {
			want(t, "once more", b.guard(nth(i)), api.OK)
		}
		want(t, "a 257th key", b.guard(nth(256)), api.ErrArg)
		for i := 300; i < 556; i++ {
			want(t, "Put beside them", b.put(nth(i), nil), api.OK)
		}
		want(t, "Put of one that is guarded, beside 256", b.put(nth(0), nil), api.ErrArg)
		wanted := api.OK
		if late >= 0 {
			other := w.mustBegin()
			other.put(nth(late), nil)
			other.commit()
			if late < 256 {
				wanted = api.ErrConflict
			}
		}
		want(t, fmt.Sprintf("Commit, behind one of key %d", late), committed(b), wanted)
	}
}

// P14.2: guarded keys that are written, ahead of it or behind it, are guarded as others; and those that are guarded are written as others.
func TestMostOfBoth(t *testing.T) {
	for _, late := range []int{0, 128, 255, 256} {
		w := newWorld(t, room)
		b := w.mustBegin()
		for i := range 128 {
			want(t, "Put", b.put(nth(i), nil), api.OK)
		}
		for i := range 256 {
			want(t, "Guard", b.guard(nth(i)), api.OK)
		}
		want(t, "a 257th guard", b.guard(nth(256)), api.ErrArg)
		for i := 128; i < 256; i++ {
			want(t, "Put", b.put(nth(i), nil), api.OK)
		}
		want(t, "a 257th key", b.put(nth(256), nil), api.ErrArg)
		w.mustBegin().does("other=x").commit()
		other := w.mustBegin()
		other.put(nth(late), nil)
		other.commit()
		wanted := api.ErrConflict
		if late == 256 {
			wanted = api.OK
		}
		want(t, fmt.Sprintf("Commit, behind one of key %d", late), committed(b), wanted)
	}
}

// P14.2: a guard writes nothing and hides nothing; a guarded key may be written, and a written one guarded.
func TestGuard(t *testing.T) {
	w := newWorld(t, room)
	w.writes("a=o b=o")
	b := w.mustBegin().guards("a c a").does("a=x c=y b!").guards("b c")
	tells(t, "Scan", b.scan(nil, nil), "a0=x c0=y")
	b.reads()
	if n, f := b.commit(); n != 2 || f != api.OK {
		t.Fatal(n, f)
	}
	tells(t, "committed", w.e.Scan(nil, nil, 9), "a2=x c2=y")
	if w.e.Waiting() != 5 {
		t.Fatalf("%d entries", w.e.Waiting())
	}
	b = w.mustBegin().guards("a d e")
	tells(t, "Scan", b.scan(nil, nil), "a2=x c2=y")
	if n, f := b.commit(); n != 2 || f != api.OK || w.e.Seq() != 2 {
		t.Fatal(n, f, w.e.Seq())
	}
}

// P14.3: what it wrote, what it deleted, what others committed before and after it began.
func TestGet(t *testing.T) {
	w := newWorld(t, room)
	w.writes("a=old b=old c=old d=old", "d!", "e=old", "e=new")
	b := w.mustBegin().does("a=own b! f=own g! h")
	after := w.mustBegin().does("a=late c=late d=late e! i=late")
	if n, f := after.commit(); n != 5 || f != api.OK {
		t.Fatal(n, f)
	}
	for _, c := range []struct {
		key, value string
		want       api.Errno
	}{
		{"a", "own", api.OK}, {"b", "", api.ErrNone}, {"c", "old", api.OK}, {"d", "", api.ErrNone}, {"e", "new", api.OK},
		{"f", "own", api.OK}, {"g", "", api.ErrNone}, {"h", "", api.OK}, {"i", "", api.ErrNone}, {"j", "", api.ErrNone},
		{"", "", api.ErrNone}, {"aa", "", api.ErrNone}, {strings.Repeat("a", 65), "", api.ErrNone},
	} {
		for range 2 {
			if v, f := b.get([]byte(c.key)); string(v) != c.value || f != c.want {
				t.Errorf("Get(%s): %q %v, not %q %v", c.key, v, f, c.value, c.want)
			}
		}
		w.flush()
	}
	if _, f := b.get(nil); f != api.ErrNone {
		t.Error(f)
	}
	tells(t, "Scan", b.scan(nil, nil), "a0=own c1=old e4=new f0=own h0")
}

// P14.3: all bounds over keys of the engine and of the transaction's own, beside one another and over one another.
func TestScan(t *testing.T) {
	w := newWorld(t, room)
	w.writes("b=o d=o f=o", "h=o j=o d=p", "f!")
	for _, c := range []struct{ words, all, some string }{
		{"", "b1=o d2=p h2=o j2=o", "d2=p"},
		{"a=x c=x e=x g=x i=x k=x", "a0=x b1=o c0=x d2=p e0=x g0=x h2=o i0=x j2=o k0=x", "c0=x d2=p e0=x g0=x"},
		{"b=x d=x h=x j=x", "b0=x d0=x h0=x j0=x", "d0=x"},
		{"b! d! h! j!", "", ""},
		{"a! c! e! g! i! k!", "b1=o d2=p h2=o j2=o", "d2=p"},
		{"c=x h=x g!", "b1=o c0=x d2=p h0=x j2=o", "c0=x d2=p"},
		{"c! h! g=x", "b1=o d2=p g0=x j2=o", "d2=p g0=x"},
		{"f=x d!", "b1=o f0=x h2=o j2=o", "f0=x"},
		{"d", "b1=o d0 h2=o j2=o", "d0"},
		{"cz=x czz=x bzzz=y ha=z", "b1=o bzzz0=y cz0=x czz0=x d2=p h2=o ha0=z j2=o", "cz0=x czz0=x d2=p"},
	} {
		b := w.mustBegin().does(c.words)
		tells(t, "all of "+c.words, b.scan(nil, nil), c.all)
		tells(t, "all of "+c.words, b.scan([]byte{}, []byte{}), c.all)
		tells(t, "some of "+c.words, b.scan([]byte("c"), []byte("h")), c.some)
		for from := byte('a' - 1); from <= 'l'; from++ {
			tells(t, "none", b.scan([]byte{from}, []byte{from}), "")
			for to := byte('a' - 1); to <= 'l'; to++ {
				got := b.scan([]byte{from}, []byte{to})
				if to <= from && len(got) > 0 {
					t.Fatalf("from %c to %c: %s", from, to, told(got))
				}
			}
			b.scan([]byte{from}, nil)
			b.scan(nil, []byte{from})
			b.scan([]byte{from, 0}, []byte{from + 2, 0})
			b.scan(sample(65), []byte{from})
			b.scan([]byte{from}, sample(5000))
		}
		b.abort()
	}
}

// P14.3: what it writes has the Seq 0, at whatever Seq it began, and a value without bytes is one.
func TestScanOwn(t *testing.T) {
	w := newWorld(t, room)
	for range 40 {
		w.writes("a=o")
	}
	b := w.mustBegin().does("b=x c")
	tells(t, "Scan", b.scan(nil, nil), "a40=o b0=x c0")
	b.does("a")
	tells(t, "Scan", b.scan(nil, nil), "a0 b0=x c0")
	b.does("a!")
	tells(t, "Scan", b.scan(nil, nil), "b0=x c0")
}

// P14.3: many keys of its own over many of the engine's, in the memory and in tables.
func TestScanMany(t *testing.T) {
	w := newWorld(t, room)
	for from := range 12 {
		b := w.mustBegin()
		for i := range 200 {
			b.put(nth(i*5+from), sample(i%30))
		}
		b.commit()
		if from%2 == 0 {
			w.flush()
		}
		if from%5 == 4 {
			w.compact()
		}
	}
	b := w.mustBegin()
	for i := range 256 {
		if i%4 == 3 {
			b.delete(nth(i * 9))
		} else {
			b.put(nth(i*9), []byte("own"))
		}
	}
	got := b.scan(nil, nil)
	own := 0
	for i, e := range got {
		if i > 0 && bytes.Compare(got[i-1].Key, e.Key) >= 0 {
			t.Fatalf("%q ahead of %q", got[i-1].Key, e.Key)
		}
		if e.Seq == 0 {
			own++
		}
	}
	if own != 192 || len(got) < 500 {
		t.Fatalf("%d of %d are its own", own, len(got))
	}
	b.reads()
}

// P14.4: the number of what is committed, and what is there from it on, and not ahead of it.
func TestCommit(t *testing.T) {
	w := newWorld(t, room)
	if n, f := w.mustBegin().does("a=x b=x").commit(); n != 1 || f != api.OK {
		t.Fatal(n, f)
	}
	w.writes("c=x")
	if n, f := w.mustBegin().does("d=y a! b=y e!").commit(); n != 3 || f != api.OK {
		t.Fatal(n, f)
	}
	tells(t, "at 0", w.e.Scan(nil, nil, 0), "")
	tells(t, "at 1", w.e.Scan(nil, nil, 1), "a1=x b1=x")
	tells(t, "at 2", w.e.Scan(nil, nil, 2), "a1=x b1=x c2=x")
	tells(t, "at 3", w.e.Scan(nil, nil, 3), "b3=y c2=x d3=y")
	tells(t, "at 4", w.e.Scan(nil, nil, 4), "b3=y c2=x d3=y")
	if w.e.Newest([]byte("e")) != 3 || w.e.Newest([]byte("a")) != 3 {
		t.Fatal("what is deleted is not written")
	}
	w.unpinned("behind all")
}

// P14.4: the batch's changes stand by key, in whatever order they were put.
func TestCommitByKey(t *testing.T) {
	var raw []string
	for turn := range 12 {
		w := newWorld(t, room)
		b := w.mustBegin()
		for _, i := range rand.New(rand.NewPCG(uint64(turn), 14)).Perm(100) {
			if i%5 == 0 {
				b.delete(nth(i))
			} else {
				b.put(nth(i), sample(i))
			}
		}
		b.commit()
		raw = append(raw, files(w.d))
	}
	if len(slices.Compact(raw)) != 1 {
		t.Fatal("the order of the puts is seen on the disk")
	}
}

// P14.4: one that writes nothing answers its Seq, whatever else was committed, also what it guards, and turns nothing.
func TestCommitNothing(t *testing.T) {
	for _, guards := range []string{"", "a", "a b c"} {
		w := newWorld(t, room)
		w.writes("a=o", "b=o")
		b, c := w.mustBegin().guards(guards), w.mustBegin().guards(guards)
		was := files(w.d)
		if n, f := b.commit(); n != 2 || f != api.OK || files(w.d) != was {
			t.Fatalf("guards %q: %d %v", guards, n, f)
		}
		w.writes("a=x", "b!", "c=x")
		was = files(w.d)
		if n, f := c.commit(); n != 2 || f != api.OK || files(w.d) != was || w.e.Seq() != 5 {
			t.Fatalf("guards %q: %d %v", guards, n, f)
		}
		w.unpinned("guards " + guards)
	}
	b := newWorld(t, room).mustBegin()
	if n, f := b.commit(); n != 0 || f != api.OK {
		t.Fatal(n, f)
	}
}

// What it reads, and what was refused, is no write.
func TestCommitReadOnly(t *testing.T) {
	w := newWorld(t, room)
	w.writes("a=o")
	b := w.mustBegin()
	b.reads()
	b.put(nil, nil)
	b.delete(sample(65))
	w.writes("a=x")
	if n, f := b.commit(); n != 1 || f != api.OK {
		t.Fatal(n, f)
	}
}

// P14.4: which of others' batches is in conflict with what it does.
func TestConflict(t *testing.T) {
	for _, c := range []struct {
		before, does, guards, after string
		want                        api.Errno
	}{
		{"a=o", "a=x", "", "", api.OK},
		{"a=o", "a=x", "", "b=y", api.OK},
		{"a=o", "a=x", "", "a=y", api.ErrConflict},
		{"a=o", "a=x", "", "a!", api.ErrConflict},
		{"b=o", "a=x", "", "a=y", api.ErrConflict},
		{"b=o", "a=x", "", "a!", api.ErrConflict},
		{"a=o", "a!", "", "a=y", api.ErrConflict},
		{"a=o", "a!", "", "a!", api.ErrConflict},
		{"b=o", "a!", "", "a!", api.ErrConflict},
		{"a=o", "a=o", "", "a=o", api.ErrConflict},
		{"a=o", "a=x b=x c=x", "", "c=y", api.ErrConflict},
		{"a=o", "a=x b=x c=x", "", "b=y", api.ErrConflict},
		{"a=o", "b=x", "a", "", api.OK},
		{"a=o", "b=x", "a", "c=y aa=y", api.OK},
		{"a=o", "b=x", "a", "a=y", api.ErrConflict},
		{"a=o", "b=x", "a", "a!", api.ErrConflict},
		{"c=o", "b=x", "a", "a!", api.ErrConflict},
		{"c=o", "b=x", "a c d", "d=y", api.ErrConflict},
		{"c=o", "b!", "a c d", "d=y e=y f=y", api.ErrConflict},
		{"a=o", "b=x", "a", "b=y", api.ErrConflict},
		{"a=o", "b=x", "", "a=y", api.OK},
		{"a=o b=o", "ab=x", "abb", "a=y abbb=y abc=y b=y", api.OK},
		{"a=o", "a=x a!", "", "a=y", api.ErrConflict},
	} {
		what := fmt.Sprintf("%s, guards %s, behind %s", c.does, c.guards, c.after)
		for _, inTables := range []bool{false, true} {
			w := newWorld(t, room)
			w.writes("zz=o")
			w.flush() // so that no other flush is at the bottom
			w.writes(c.before)
			b := w.mustBegin().guards(c.guards).does(c.does)
			if c.after != "" {
				w.writes(c.after, "z=z")
			}
			if inTables {
				w.flush()
			}
			seq, was := w.e.Seq(), files(w.d)
			n, f := b.commit()
			want(t, what, f, c.want)
			if f == api.OK && n != seq+1 || f != api.OK && (n != 0 || w.e.Seq() != seq || files(w.d) != was) {
				t.Fatalf("%s: %d, and behind it %d", what, n, w.e.Seq())
			}
			w.unpinned(what)
		}
	}
}

// A key whose last write was ahead of the beginning, or is its own Seq, is in no conflict.
func TestNoConflictAtItsSeq(t *testing.T) {
	w := newWorld(t, room)
	for i := range 6 {
		b := w.mustBegin().does("a=x b!").guards("a c")
		if n, f := b.commit(); n != i+1 || f != api.OK {
			t.Fatal(n, f)
		}
		if i%2 == 0 {
			w.flush()
		}
	}
}

// Where Newest tells nothing of a key any more, since a flush at the bottom dropped what was Gone, there is no conflict: P14.4 asks Newest alone.
func TestNewestDropped(t *testing.T) {
	w := newWorld(t, room)
	b := w.mustBegin().does("a=x")
	w.writes("a!")
	w.flush()
	if n, f := b.commit(); n != 2 || f != api.OK {
		t.Fatal(n, f)
	}
	tells(t, "behind it", w.e.Scan(nil, nil, 9), "a2=x")
}

// P14.4: a disk that has just room for a batch, and one that has a byte less: all is as it was.
func TestCommitRoom(t *testing.T) {
	wide := newWorld(t, room)
	wide.writes("a=o")
	if _, f := wide.mustBegin().does("b=x a! c=yy").commit(); f != api.OK {
		t.Fatal(f)
	}
	least := room - wide.d.Free() // what both batches take
	for less := range 20 {
		w := newWorld(t, least-less)
		w.writes("a=o")
		b, other := w.mustBegin().does("b=x a! c=yy"), w.mustBegin()
		was := files(w.d)
		n, f := b.commit()
		if less == 0 {
			if n != 2 || f != api.OK {
				t.Fatalf("%d less: %d %v", less, n, f)
			}
			continue
		}
		if n != 0 || f != api.ErrNoSpace || files(w.d) != was || w.e.Seq() != 1 {
			t.Fatalf("%d less: %d %v", less, n, f)
		}
		tells(t, "another one", other.scan(nil, nil), "a1=o")
		tells(t, "the next one", w.mustBegin().scan(nil, nil), "a1=o")
		if got := pins(w.e); got != "2*1" {
			t.Fatalf("%d less: pinned is %q", less, got)
		}
	}
}

// P14.4: a conflict is told ahead of what the engine's Write would tell.
func TestConflictFirst(t *testing.T) {
	w := newWorld(t, 3000)
	b, c := w.mustBegin(), w.mustBegin()
	for i := range 10 {
		b.put(nth(i), sample(1000))
		c.put(nth(i+20), sample(1000))
	}
	b.does("a=x")
	w.writes("a=y")
	want(t, "without room", committed(b), api.ErrConflict)
	want(t, "without a conflict", committed(c), api.ErrNoSpace)
	b, c = w.mustBegin().does("a=x"), w.mustBegin().does("b=x")
	w.writes("a=y")
	w.d.Cut(0)
	w.d2.Cut(0)
	w.d.Append("f", nil)
	w.d2.Append("f", nil)
	want(t, "without power", committed(b), api.ErrConflict)
	want(t, "without power and conflict", committed(c), api.ErrPower)
	w.unpinned("behind both")
}

// lastWorld is one whose engine has come so far.
func lastWorld(t *testing.T, seq int) *world {
	t.Helper()
	d, f := disk.New(room)
	want(t, "New", f, api.OK)
	want(t, "Save", cat.Save(d, edit.Version{Gen: 1, Next: 1, Log: 1, Seq: seq}), api.OK)
	return opened(t, room, d)
}

// P14.4: behind the last Seq no batch is written: Write's ErrArg.
func TestCommitLast(t *testing.T) {
	w := lastWorld(t, most-1)
	first, second, third := w.mustBegin().does("a=x"), w.mustBegin().does("b=x"), w.mustBegin().does("a=y")
	if n, f := first.commit(); n != most || f != api.OK {
		t.Fatal(n, f)
	}
	if n, f := second.commit(); n != 0 || f != api.ErrArg {
		t.Fatal(n, f)
	}
	if n, f := third.commit(); n != 0 || f != api.ErrConflict {
		t.Fatal(n, f)
	}
	last := w.mustBegin().does("b=y c=z")
	tells(t, "at the last Seq", last.scan(nil, nil), "a1099511627776=x b0=y c0=z")
	last.does("a=y")
	tells(t, "at the last Seq", last.scan(nil, nil), "a0=y b0=y c0=z")
	last.does("a!")
	tells(t, "at the last Seq", last.scan(nil, nil), "b0=y c0=z")
	if n, f := last.commit(); n != 0 || f != api.ErrArg {
		t.Fatal(n, f)
	}
	nothing := w.mustBegin()
	if n, f := nothing.commit(); n != most || f != api.OK {
		t.Fatal(n, f)
	}
	want(t, "at MaxNum nothing is pinned", w.e.Unpin(most), api.ErrArg)
	want(t, "nor ahead of it", w.e.Unpin(most-1), api.ErrArg)
}

// P14.5: what is aborted is not written, and in nobody's way.
func TestAbort(t *testing.T) {
	w := newWorld(t, room)
	w.writes("a=o")
	was := files(w.d)
	b, other := w.mustBegin().does("a=x b=y c!").guards("d"), w.mustBegin().does("a=z d=z").guards("b")
	want(t, "Abort", b.abort(), api.OK)
	want(t, "Abort", b.abort(), api.ErrDone)
	if files(w.d) != was || w.e.Seq() != 1 {
		t.Fatal("what is aborted is written")
	}
	if n, f := other.commit(); n != 2 || f != api.OK {
		t.Fatal(n, f)
	}
	tells(t, "behind it", w.e.Scan(nil, nil, 9), "a2=z d2=z")
	w.unpinned("behind it")
}

// P14.6: what one reads does not hang on what others commit, flush and compact meanwhile.
func TestReadsStay(t *testing.T) {
	t.Parallel()
	r := rand.New(rand.NewPCG(14, 6))
	w := newWorld(t, room)
	w.writes("a=o b=o c=o", "b!", "c=p d=p")
	for turn := range 20 {
		var readers []*both
		for range 1 + r.IntN(4) {
			b := w.mustBegin()
			if r.IntN(2) == 0 {
				b.does([]string{"a=own", "b=own c!", "e=own", "d!"}[r.IntN(4)])
			}
			readers = append(readers, b)
			w.mustBegin().does(fmt.Sprintf("%c=%d %c!", 'a'+r.IntN(6), turn, 'g'+r.IntN(3))).commit()
		}
		for range 6 {
			switch r.IntN(4) {
			case 0:
				w.flush()
			case 1:
				w.compact()
			default:
				other := w.mustBegin()
				for range 1 + r.IntN(40) {
					k := []byte{byte('a' + r.IntN(8))}
					if r.IntN(3) == 0 {
						k = append(k, byte('a'+r.IntN(26)), byte('a'+r.IntN(26)))
					}
					if r.IntN(3) == 0 {
						other.delete(k)
					} else {
						other.put(k, sample(r.IntN(9)))
					}
				}
				other.commit()
			}
			for _, b := range readers {
				b.reads()
			}
		}
		for _, b := range readers {
			want(t, "Abort", b.abort(), api.OK)
		}
	}
	if len(w.e.Version().Tables) < 2 {
		t.Fatal("nothing was compacted")
	}
	w.unpinned("behind all")
}

// P14.6: of two that began ahead of both commits, and write one key, one commits: the first of them, whichever it is.
func TestOneCommits(t *testing.T) {
	for _, first := range []string{"a=x", "a!", "b=x a=x", "a! b!", "a=x c=x"} {
		for _, second := range []string{"a=y", "a!", "a=y d=y", "d! a!", "a=x"} {
			for _, before := range []string{"a=o", "e=o", "a=o b=o c=o d=o"} {
				for _, swapped := range []bool{false, true} {
					w := newWorld(t, room)
					w.writes(before)
					a, b := w.mustBegin(), w.mustBegin()
					if swapped {
						a, b = b, a
					}
					b.does(second)
					a.does(first)
					na, fa := a.commit()
					was := w.e.Scan(nil, nil, 9)
					nb, fb := b.commit()
					if na != 2 || fa != api.OK || nb != 0 || fb != api.ErrConflict {
						t.Fatalf("%s and %s: %d %v, %d %v", first, second, na, fa, nb, fb)
					}
					if now := w.e.Scan(nil, nil, 9); !allAlike(now, was) {
						t.Fatalf("%s and %s: the second one turns %s into %s", first, second, told(was), told(now))
					}
				}
			}
		}
	}
}

// Of many that write one key, one at a time commits; those that write keys of their own all do.
func TestManyCommit(t *testing.T) {
	w := newWorld(t, room)
	for turn := range 20 {
		var all []*both
		for i := range 15 {
			b := w.mustBegin()
			if i%3 == 0 {
				b.does("a=x")
			}
			b.put([]byte{'k', byte('a' + i)}, []byte("x"))
			all = append(all, b)
		}
		done := 0
		for i, b := range all {
			f := committed(b)
			if f == api.OK {
				done++
			}
			if i%3 != 0 && f != api.OK {
				t.Fatalf("%d: %v", i, f)
			}
		}
		if done != 11 {
			t.Fatalf("%d of 15 commit in turn %d", done, turn)
		}
	}
}

// Two that guard what the other one writes: one commits at most.
func TestGuardsBoth(t *testing.T) {
	w := newWorld(t, room)
	w.writes("a=o b=o")
	a, b := w.mustBegin().does("a=x").guards("b"), w.mustBegin().does("b=x").guards("a")
	want(t, "the first", committed(a), api.OK)
	want(t, "the second", committed(b), api.ErrConflict)
	a, b = w.mustBegin().does("a=y"), w.mustBegin().does("b=y")
	want(t, "without guards, the first", committed(a), api.OK)
	want(t, "without guards, the second", committed(b), api.OK)
}

// crashed are disks as d may be behind a crash: of what is not sure nothing, a byte, some, all but one, all.
func crashed(t *testing.T, d *disk.Disk, capacity int) []*disk.Disk {
	t.Helper()
	var out []*disk.Disk
	lost := 0
	for _, f := range d.Dump() {
		lost = max(lost, len(f.Bytes)-f.Safe)
	}
	for _, pick := range []int{0, 1, lost / 2, lost - 1, lost} {
		again := twin(t, capacity, d)
		want(t, "Crash", again.Crash([]int{pick, pick, pick, pick}), api.OK)
		out = append(out, again)
	}
	return out
}

// P14.6: what one commits is there whole, or not at all, wherever the power goes; what was answered for is there.
func TestCuts(t *testing.T) {
	const before, after = "a1=o b2=o c2=o", "a3=x c2=o d3=y"
	for _, size := range []int{1, 3000, 9000} {
		for cut := range 12 {
			w := newWorld(t, room)
			w.writes("a=o", "b=o c=o")
			b := w.mustBegin().does("a=x b! d=y")
			for i := range size / 1000 {
				b.put([]byte{'~', byte(i)}, sample(1000))
			}
			w.d.Cut(cut)
			w.d2.Cut(cut)
			n, f := b.commit()
			if f != api.OK && (f != api.ErrPower || n != 0) {
				t.Fatalf("cut at %d: %d %v", cut, n, f)
			}
			for _, d := range crashed(t, w.d, room) {
				e := mustOpen(t, d)
				got := e.Scan(nil, []byte("~"), e.Seq())
				great := len(e.Scan([]byte("~"), nil, e.Seq()))
				whole := allAlike(got, list(after)) && e.Seq() == 3 && great == size/1000
				none := allAlike(got, list(before)) && e.Seq() == 2 && great == 0
				if !whole && (!none || f == api.OK) {
					t.Fatalf("cut at %d, answered %v: %s and %d behind them", cut, f, told(got), great)
				}
				goesOn(t, e, n, whole)
			}
		}
	}
}

// goesOn begins in an engine that was opened again behind a Commit of a, b and d.
func goesOn(t *testing.T, e *lsm.Engine, n int, whole bool) {
	t.Helper()
	x, f := Begin(e)
	want(t, "Begin", f, api.OK)
	v, f := x.Get([]byte("d"))
	if whole != (f == api.OK) || whole && string(v) != "y" {
		t.Fatalf("Get of d: %q %v", v, f)
	}
	if n > 0 && x.Seq() != n {
		t.Fatalf("its Seq is %d, not %d", x.Seq(), n)
	}
	x.Put([]byte("d"), []byte("again"))
	if m, f := x.Commit(); m != x.Seq()+1 || f != api.OK {
		t.Fatal(m, f)
	}
}

// Transactions of two engines know nothing of each other.
func TestApart(t *testing.T) {
	v, w := newWorld(t, room), newWorld(t, room)
	w.writes("a=o")
	a, b := v.mustBegin().does("a=x b=x"), w.mustBegin().does("a=y")
	tells(t, "the one", a.scan(nil, nil), "a0=x b0=x")
	tells(t, "the other", b.scan(nil, nil), "a0=y")
	want(t, "the one", committed(a), api.OK)
	tells(t, "the other", b.scan(nil, nil), "a0=y")
	want(t, "the other", committed(b), api.OK)
	tells(t, "the one", v.e.Scan(nil, nil, 9), "a1=x b1=x")
	tells(t, "the other", w.e.Scan(nil, nil, 9), "a2=y")
}

// Transactions of one engine do not see what the others write.
func TestTogether(t *testing.T) {
	w := newWorld(t, room)
	w.writes("a=o")
	a, b := w.mustBegin(), w.mustBegin()
	a.does("a=x b=x")
	b.does("c=y a!").guards("d")
	tells(t, "the one", a.scan(nil, nil), "a0=x b0=x")
	tells(t, "the other", b.scan(nil, nil), "c0=y")
	tells(t, "a third", w.mustBegin().scan(nil, nil), "a1=o")
	want(t, "Abort", a.abort(), api.OK)
	tells(t, "the other", b.scan(nil, nil), "c0=y")
}

// rowCalls are the calls of which rows are made: each of two transactions' and the engine's.
const rowCalls = "PDGCAbpdgcaBF"

// rowStep does the call of a letter: those of the first transaction are great.
func rowStep(w *world, l []*both, letter byte) {
	k := []byte("k")
	b := l[0]
	if letter >= 'a' {
		b = l[1]
	}
	switch letter {
	case 'P', 'p':
		b.put(k, []byte{letter})
	case 'D', 'd':
		b.delete(k)
	case 'G', 'g':
		b.guard(k)
		b.put([]byte{'o', letter}, nil)
	case 'C', 'c':
		b.commit()
	case 'A', 'a':
		b.abort()
	case 'B':
		l[0] = w.mustBegin()
	case 'b':
		l[1] = w.mustBegin()
	case 'F':
		w.flush()
	}
}

// All rows of four calls, behind two that began.
func TestRows(t *testing.T) {
	t.Parallel()
	n := len(rowCalls)
	for row := range n * n * n * n {
		w := newWorld(t, room)
		if row%2 == 0 {
			w.writes("k=o l=o")
		}
		l := []*both{w.mustBegin(), w.mustBegin()}
		for rest := row; rest > 0; rest /= n {
			rowStep(w, l, rowCalls[rest%n])
		}
		for _, b := range l {
			b.get([]byte("k"))
			b.scan(nil, nil)
		}
		w.unpinned("a row")
	}
}

// walk does steps that bytes tell, with some transactions at once, and holds every answer against the model's.
func walk(t *testing.T, capacity int, steps []byte) {
	t.Helper()
	w := newWorld(t, capacity)
	l := make([]*both, 6)
	next := func(n int) int {
		if len(steps) == 0 {
			return 0
		}
		x := int(steps[0])
		steps = steps[1:]
		return x % n
	}
	for len(steps) > 0 {
		at, call := next(len(l)), next(24)
		b := l[at]
		switch {
		case call == 0:
			w.flush()
		case call == 1:
			w.compact()
		case b == nil:
			l[at], _ = w.begin()
		case call == 2:
			b.commit()
			if next(4) > 0 {
				l[at] = nil
			}
		case call == 3:
			b.abort()
			l[at] = nil
		case call < 12:
			b.put(walkKey(next), sample(next(40)))
		case call < 16:
			b.delete(walkKey(next))
		case call < 18:
			b.guard(walkKey(next))
		case call < 21:
			b.get(walkKey(next))
		default:
			b.scan(walkKey(next), walkKey(next))
		}
	}
	for _, b := range l {
		if b != nil {
			b.reads()
			b.commit()
		}
	}
	w.unpinned("a walk")
}

// walkKey is one of few short keys, or one of many, or one that may not be.
func walkKey(next func(int) int) []byte {
	kind, n := next(16), next(256)
	switch kind {
	case 0:
		return nil
	case 1:
		return sample(63 + n%3)
	case 2, 3, 4, 5:
		return []byte{'m', byte(n)}
	}
	return []byte{byte('a' + n%5)}
}

func TestWalks(t *testing.T) {
	t.Parallel()
	for seed := range 60 {
		r := rand.New(rand.NewPCG(uint64(seed), 1414))
		steps := make([]byte, 3000)
		for i := range steps {
			steps[i] = byte(r.Uint32())
		}
		capacity := room
		if seed%4 == 3 {
			capacity = 2000 + 100*seed
		}
		walk(t, capacity, steps)
	}
}

// R1: no call panics, whatever is handed in.
func TestArguments(t *testing.T) {
	texts := [][]byte{nil, {}, {0}, {255}, []byte("a"), sample(64), sample(65), sample(1024), sample(1025), sample(100000)}
	for _, seq := range []int{0, 1, most - 1, most} {
		w := lastWorld(t, seq)
		for _, a := range texts {
			b := w.mustBegin()
			for _, c := range texts {
				b.put(a, c)
				b.delete(c)
				b.guard(c)
				b.scan(a, c)
				b.get(c)
				b.put(a, c)
			}
			b.reads()
			b.commit()
		}
	}
	if f := (&Txn{seq: math.MaxInt}).Abort(); f != api.ErrArg {
		t.Error(f)
	}
}

// roomy is bytes with room behind them, which is to stay as it is.
func roomy(b []byte) []byte {
	if b == nil {
		return nil
	}
	out := bytes.Repeat([]byte{170}, len(b)+16)
	copy(out, b)
	return out[:len(b)]
}

// turn turns all bytes, and those of the room behind them.
func turn(b []byte) {
	b = b[:cap(b)]
	for i := range b {
		b[i] ^= 255
	}
}

// R3: what is handed in is as it was behind each call, and is not kept.
func TestHandedIn(t *testing.T) {
	w := newWorld(t, room)
	w.writes("a=o b=o")
	x, f := Begin(w.e)
	want(t, "Begin", f, api.OK)
	handed := func(what string, do func(a, b []byte), words ...string) {
		t.Helper()
		a, b := roomy([]byte(words[0])), roomy([]byte(words[1]))
		was := fmt.Sprintf("%x %x", a[:cap(a)], b[:cap(b)])
		do(a, b)
		if now := fmt.Sprintf("%x %x", a[:cap(a)], b[:cap(b)]); now != was {
			t.Fatalf("%s: %s is turned into %s", what, was, now)
		}
		turn(a)
		turn(b)
	}
	for range 2 {
		handed("Put", func(a, b []byte) { x.Put(a, b) }, "a", "x")
		handed("Put", func(a, b []byte) { x.Put(a, b) }, "c", "yy")
		handed("Delete", func(a, b []byte) { x.Delete(a); x.Delete(b) }, "b", "d")
		handed("Guard", func(a, b []byte) { x.Guard(a); x.Guard(b) }, "e", "a")
		handed("Get", func(a, b []byte) { x.Get(a); x.Get(b) }, "a", "f")
		handed("Scan", func(a, b []byte) { x.Scan(a, b); x.Scan(b, a) }, "a", "c")
		handed("Put", func(a, b []byte) { x.Put(a, b) }, "", strings.Repeat("x", 1025))
	}
	tells(t, "Scan", x.Scan(nil, nil), "a0=x c0=yy")
	if v, f := x.Get([]byte("c")); string(v) != "yy" || f != api.OK {
		t.Fatalf("%q %v", v, f)
	}
	w.e.Write(changes("z=z"))
	if n, f := x.Commit(); n != 3 || f != api.OK {
		t.Fatal(n, f)
	}
	tells(t, "committed", w.e.Scan(nil, nil, 9), "a3=x c3=yy z2=z")
}

// R3: a guard is of the key as it was handed in.
func TestHandedGuard(t *testing.T) {
	w := newWorld(t, room)
	x, _ := Begin(w.e)
	k := []byte("a")
	x.Guard(k)
	turn(k)
	x.Put([]byte("b"), nil)
	w.e.Write(changes("a=x"))
	if n, f := x.Commit(); n != 0 || f != api.ErrConflict {
		t.Fatal(n, f)
	}
}

// spoil turns entries, and fills the room behind them.
func spoil(l []api.Entry) {
	for i := range l {
		turn(l[i].Key)
		turn(l[i].Value)
		l[i].Seq, l[i].Gone = ^l[i].Seq, !l[i].Gone
	}
	behind := l[len(l):cap(l)]
	for i := range behind {
		behind[i] = api.Entry{Key: []byte("room"), Seq: -77, Value: []byte("room")}
	}
}

// R3: what is answered is new memory.
func TestAnswered(t *testing.T) {
	w := newWorld(t, room)
	w.writes("a=old b=old c=old", "d=old")
	w.flush()
	w.writes("e=old")
	b, other := w.mustBegin().does("b=own f=own c! g=own"), w.mustBegin()
	const all, before = "a1=old b0=own d2=old e3=old f0=own g0=own", "a1=old b1=old c1=old d2=old e3=old"
	for range 3 {
		for k := byte('a'); k <= 'h'; k++ {
			v, _ := b.get([]byte{k})
			turn(v)
			v, _ = b.get([]byte{k})
			turn(v)
		}
		for _, from := range []string{"", "b", "f"} {
			spoil(b.scan([]byte(from), nil))
			spoil(b.scan([]byte(from), []byte("g")))
			spoil(other.scan([]byte(from), nil))
		}
		tells(t, "Scan", b.scan(nil, nil), all)
		tells(t, "another one's", other.scan(nil, nil), before)
		tells(t, "the engine's", w.e.Scan(nil, nil, 9), before)
	}
	b.commit()
	tells(t, "committed", w.e.Scan(nil, nil, 9), "a1=old b4=own d2=old e3=old f4=own g4=own")
}

// R3: no two entries of one answer share bytes, nor does an answer with what was handed in.
func TestAnsweredApart(t *testing.T) {
	w := newWorld(t, room)
	w.writes("a=oo b=oo")
	b := w.mustBegin().does("c=xx d=xx")
	value := []byte("xx")
	b.put([]byte("e"), value)
	got := b.scan(nil, nil)
	for i := range got {
		turn(got[i].Key)
		turn(got[i].Value)
		for j := i + 1; j < len(got); j++ {
			if string(got[j].Key) != string(rune('a'+j)) || len(got[j].Value) != 2 || got[j].Value[0] < 'a' {
				t.Fatalf("entry %d shares bytes with %d: %s", j, i, told(got))
			}
		}
	}
	if string(value) != "xx" {
		t.Fatal("what was handed in is answered")
	}
}

func FuzzTxn(f *testing.F) {
	f.Add(sample(200))
	f.Add(sample(900))
	f.Add([]byte("\x00\x05\x01\x05\x00\x04\x0f\x00\x05\x01\x04\x0f\x00\x05\x00\x02\x01\x01\x02\x01"))
	f.Fuzz(func(t *testing.T, steps []byte) {
		steps = steps[:min(len(steps), 1500)]
		walk(t, room, steps)
		walk(t, 600, steps)
	})
}
