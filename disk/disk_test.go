package disk

import (
	"bytes"
	"fmt"
	"math"
	"slices"
	"strings"
	"testing"

	"sawyer/api"
)

// sample is n bytes that aren't alike.
func sample(n int) []byte {
	b := make([]byte, n)
	x := uint32(n)*2654435761 + 1
	for i := range b {
		x = x*1664525 + 1013904223
		b[i] = byte(x >> 24)
	}
	return b
}

// goodNames are names that may be, at both ends and with odd bytes.
func goodNames() []string {
	return []string{"a", "\x01", "\xff", " ", "/", "..", "a/b", "wal/0000000000007", "\xc3\x28", strings.Repeat("n", 99), strings.Repeat("n", 100), strings.Repeat("\xff", 100)}
}

// wrongNames are names that may not be.
func wrongNames() []string {
	return []string{"", "\x00", "a\x00", "\x00a", "a\x00b", strings.Repeat("n", 101), strings.Repeat("n", 1000), strings.Repeat("n", 99) + "\x00", strings.Repeat("n", 101) + "\x00"}
}

func mustNew(t *testing.T, capacity int) *Disk {
	t.Helper()
	d, e := New(capacity)
	if d == nil || e != api.OK {
		t.Fatalf("New(%d): %v %v", capacity, d, e)
	}
	return d
}

func mustLoad(t *testing.T, capacity int, l ...File) *Disk {
	t.Helper()
	d, e := Load(capacity, l)
	if d == nil || e != api.OK {
		t.Fatalf("Load(%d, %v): %v %v", capacity, l, d, e)
	}
	return d
}

func refusedLoad(capacity int, want api.Errno, l ...File) bool {
	d, e := Load(capacity, l)
	return d == nil && e == want
}

func refusedRead(d *Disk, name string, want api.Errno) bool {
	b, e := d.Read(name)
	return len(b) == 0 && e == want
}

// want holds an error against the one that is asked for.
func want(t *testing.T, what string, e, want api.Errno) {
	t.Helper()
	if e != want {
		t.Errorf("%s: %v, not %v", what, e, want)
	}
}

// told is all that a disk tells, as one text.
func told(d *Disk) string {
	return fmt.Sprintf("%s free %d ops %d off %v", files(d), d.Free(), d.Ops(), d.Off())
}

// files are a disk's files, as one text.
func files(d *Disk) string {
	var s strings.Builder
	for _, f := range d.Dump() {
		fmt.Fprintf(&s, "%q:%d:%q ", f.Name, f.Safe, f.Bytes)
	}
	return s.String()
}

// kept is a test's look at a disk: it fails, if what the disk tells is other than it was.
func kept(t *testing.T, d *Disk, what string, call func()) {
	t.Helper()
	was := told(d)
	call()
	if is := told(d); is != was {
		t.Errorf("%s: %s, not %s", what, is, was)
	}
}

// Example 1.
func TestExample(t *testing.T) {
	d := mustNew(t, 1000)
	want(t, "Append", d.Append("f", []byte("ab")), api.OK)
	want(t, "Sync", d.Sync("f"), api.OK)
	want(t, "Append", d.Append("f", []byte("cd")), api.OK)
	want(t, "Crash", d.Crash([]int{1}), api.OK)
	if b, e := d.Read("f"); string(b) != "abc" || e != api.OK {
		t.Errorf("%q %v", b, e)
	}
	want(t, "Crash", d.Crash(nil), api.OK)
	if b, e := d.Read("f"); string(b) != "abc" || e != api.OK {
		t.Errorf("%q %v", b, e)
	}
}

// P4.1: capacities of 0 to 2^40, and no others.
func TestNew(t *testing.T) {
	for _, n := range []int{0, 1, 16, 1000, 1<<40 - 1, 1 << 40} {
		d := mustNew(t, n)
		if is := told(d); is != fmt.Sprintf(" free %d ops 0 off false", n) || len(d.Names()) != 0 {
			t.Errorf("New(%d): %s", n, is)
		}
	}
	for _, n := range []int{-1, -2, -1 << 40, math.MinInt, 1<<40 + 1, 1 << 41, math.MaxInt} {
		if d, e := New(n); d != nil || e != api.ErrArg {
			t.Errorf("New(%d): %v %v", n, d, e)
		}
		if !refusedLoad(n, api.ErrArg) || !refusedLoad(n, api.ErrArg, File{"a", 0, nil}) || !refusedLoad(n, api.ErrArg, File{"", 1, nil}) {
			t.Errorf("Load(%d) is taken", n)
		}
	}
}

// P4.1: Load's disk has these files, by name, and is one like New's beside that.
func TestLoad(t *testing.T) {
	for _, n := range []int{0, 7, 1 << 40} {
		if d := mustLoad(t, n); told(d) != told(mustNew(t, n)) {
			t.Errorf("Load(%d) of nothing: %s", n, told(d))
		}
	}
	d := mustLoad(t, 1000, File{"c", 0, nil}, File{"a", 2, []byte("xyz")}, File{"ab", 0, []byte("q")}, File{"B", 1, []byte("r")})
	if is := told(d); is != `"B":1:"r" "a":2:"xyz" "ab":0:"q" "c":0:""  free 926 ops 0 off false` {
		t.Error(is)
	}
	for _, name := range goodNames() {
		if d := mustLoad(t, 200, File{name, 1, []byte("xy")}); files(d) != fmt.Sprintf("%q:1:\"xy\" ", name) {
			t.Errorf("%q: %s", name, files(d))
		}
	}
}

// P4.1: what Dump tells, Load takes: the same disk.
func TestLoadDump(t *testing.T) {
	d := mustNew(t, 5000)
	for i, name := range goodNames() {
		want(t, name, d.Append(name, sample(i)), api.OK)
		if i%2 == 0 {
			want(t, name, d.Sync(name), api.OK)
		}
		want(t, name, d.Append(name, sample(3*i)), api.OK)
	}
	if again := mustLoad(t, 5000, d.Dump()...); files(again) != files(d) || again.Free() != d.Free() || again.Ops() != 0 {
		t.Error(told(again))
	}
	if !slices.IsSortedFunc(d.Dump(), func(a, b File) int { return strings.Compare(a.Name, b.Name) }) {
		t.Error(d.Names())
	}
}

// P4.1: names that may not be, or stand twice.
func TestLoadNames(t *testing.T) {
	for _, name := range wrongNames() {
		if !refusedLoad(1<<40, api.ErrArg, File{name, 0, nil}) || !refusedLoad(1<<40, api.ErrArg, File{"a", 0, nil}, File{name, 0, nil}) {
			t.Errorf("%q is taken", name)
		}
	}
	for _, name := range goodNames() {
		if !refusedLoad(1<<40, api.ErrArg, File{name, 0, nil}, File{"z", 0, nil}, File{name, 1, []byte("x")}) {
			t.Errorf("%q twice", name)
		}
	}
}

// P4.1: Safe at -1, 0, as many bytes as there are and one above.
func TestLoadSafe(t *testing.T) {
	for _, n := range []int{0, 1, 2, 5000} {
		for _, safe := range []int{0, n / 2, n} {
			if d := mustLoad(t, 6000, File{"a", safe, sample(n)}); d.Dump()[0].Safe != safe {
				t.Errorf("%d of %d: %d", safe, n, d.Dump()[0].Safe)
			}
		}
		for _, safe := range []int{-1, math.MinInt, n + 1, n + 2, math.MaxInt} {
			if !refusedLoad(6000, api.ErrArg, File{"a", safe, sample(n)}) {
				t.Errorf("%d of %d is taken", safe, n)
			}
		}
	}
}

// P4.1: files that cost just the capacity, and one more; ErrArg of a later file comes ahead of ErrNoSpace.
func TestLoadCost(t *testing.T) {
	l := []File{{"a", 0, sample(30)}, {strings.Repeat("n", 100), 0, nil}, {"bcd", 4, sample(4)}}
	all := 3*16 + 1 + 100 + 3 + 30 + 4
	if d := mustLoad(t, all, l...); d.Free() != 0 {
		t.Error(d.Free())
	}
	if d := mustLoad(t, all+1, l...); d.Free() != 1 {
		t.Error(d.Free())
	}
	if !refusedLoad(all-1, api.ErrNoSpace, l...) || !refusedLoad(0, api.ErrNoSpace, l...) || !refusedLoad(16, api.ErrNoSpace, File{"a", 0, nil}) {
		t.Error("more than the capacity")
	}
	for _, f := range []File{{"", 0, nil}, {"x", 1, nil}, {"x", -1, nil}, {"a", 0, nil}} {
		if !refusedLoad(0, api.ErrArg, append(slices.Clone(l), f)...) {
			t.Errorf("%v: ErrArg is first", f)
		}
	}
}

// P4.1: a disk that is nil, or that nobody has made.
func TestNotMade(t *testing.T) {
	for _, d := range []*Disk{nil, {}, new(Disk)} {
		for _, name := range []string{"a", "", "\x00", strings.Repeat("n", 101)} {
			for _, b := range [][]byte{nil, []byte("x"), make([]byte, 5000)} {
				want(t, "Append", d.Append(name, b), api.ErrArg)
			}
			want(t, "Sync", d.Sync(name), api.ErrArg)
			want(t, "Rename", d.Rename(name, "b"), api.ErrArg)
			want(t, "Rename", d.Rename("b", name), api.ErrArg)
			want(t, "Remove", d.Remove(name), api.ErrArg)
			if !refusedRead(d, name, api.ErrArg) || d.Has(name) {
				t.Errorf("%q is there", name)
			}
		}
		for _, n := range []int{-1, 0, 1, math.MaxInt} {
			want(t, "Cut", d.Cut(n), api.ErrArg)
			want(t, "Crash", d.Crash([]int{n}), api.ErrArg)
		}
		want(t, "Crash", d.Crash(nil), api.ErrArg)
		if len(d.Names()) != 0 || len(d.Dump()) != 0 || d.Free() != 0 || d.Ops() != 0 || d.Off() {
			t.Error(told(d))
		}
	}
}

// P4.2: what is appended is behind the file's bytes, and not sure.
func TestAppend(t *testing.T) {
	d := mustLoad(t, 1000, File{"b", 2, []byte("xyz")})
	for i, x := range []struct{ name, b, want string }{
		{"a", "12", `"a":0:"12" "b":2:"xyz" `},
		{"a", "3", `"a":0:"123" "b":2:"xyz" `},
		{"b", "45", `"a":0:"123" "b":2:"xyz45" `},
		{"b", "", `"a":0:"123" "b":2:"xyz45" `},
		{"c", "", `"a":0:"123" "b":2:"xyz45" "c":0:"" `},
		{"c", "\x00", `"a":0:"123" "b":2:"xyz45" "c":0:"\x00" `},
	} {
		want(t, x.name, d.Append(x.name, []byte(x.b)), api.OK)
		if files(d) != x.want || d.Ops() != i+1 {
			t.Errorf("Append(%q, %q): %s", x.name, x.b, told(d))
		}
	}
}

// P4.2: 0, 4096 and 4097 bytes, to a file that is there and to one that is not.
func TestAppendLength(t *testing.T) {
	for _, there := range []bool{false, true} {
		for _, n := range []int{0, 1, 4095, 4096} {
			d := mustNew(t, 10000)
			if there {
				want(t, "Append", d.Append("a", nil), api.OK)
			}
			want(t, "Append", d.Append("a", sample(n)), api.OK)
			if b, e := d.Read("a"); !bytes.Equal(b, sample(n)) || e != api.OK || d.Free() != 10000-17-n {
				t.Errorf("%d bytes: %d %v %d", n, len(b), e, d.Free())
			}
		}
		for _, n := range []int{4097, 5000, 8192, 1 << 20} {
			d := mustNew(t, 10000)
			if there {
				want(t, "Append", d.Append("a", nil), api.OK)
			}
			kept(t, d, "a long Append", func() { want(t, "Append", d.Append("a", sample(n)), api.ErrArg) })
		}
	}
}

// P4.2: just the room there is, and one more.
func TestAppendRoom(t *testing.T) {
	for _, n := range []int{0, 1, 50} {
		d := mustLoad(t, 100+17+n, File{"x", 0, make([]byte, 83)})
		kept(t, d, "one more", func() { want(t, "Append", d.Append("a", sample(n+1)), api.ErrNoSpace) })
		want(t, "just that", d.Append("a", sample(n)), api.OK)
		if d.Free() != 0 {
			t.Error(d.Free())
		}
		want(t, "nothing more", d.Append("a", nil), api.OK)
		kept(t, d, "one more", func() {
			want(t, "Append", d.Append("a", []byte("x")), api.ErrNoSpace)
			want(t, "Append", d.Append("b", nil), api.ErrNoSpace)
		})
	}
	d := mustNew(t, 16)
	kept(t, d, "a file's name has no room", func() { want(t, "Append", d.Append("a", nil), api.ErrNoSpace) })
}

// P4.2: Sync makes all bytes of that file sure, and of no other one.
func TestSync(t *testing.T) {
	d := mustLoad(t, 1000, File{"a", 1, []byte("xyz")}, File{"b", 0, []byte("pq")}, File{"c", 0, nil})
	want(t, "Sync", d.Sync("a"), api.OK)
	if is := told(d); is != `"a":3:"xyz" "b":0:"pq" "c":0:""  free 944 ops 1 off false` {
		t.Error(is)
	}
	want(t, "Sync", d.Sync("a"), api.OK)
	want(t, "Sync", d.Sync("c"), api.OK)
	if is := told(d); is != `"a":3:"xyz" "b":0:"pq" "c":0:""  free 944 ops 3 off false` {
		t.Error(is)
	}
	want(t, "Append", d.Append("a", []byte("w")), api.OK)
	if is := files(d); is != `"a":3:"xyzw" "b":0:"pq" "c":0:"" ` {
		t.Error(is)
	}
}

// P4.2: a file that is not there.
func TestNoFile(t *testing.T) {
	d := mustLoad(t, 36, File{"a", 1, []byte("xyz")})
	for _, name := range []string{"b", "A", "aa", strings.Repeat("n", 100)} {
		kept(t, d, name, func() {
			want(t, "Sync", d.Sync(name), api.ErrNoFile)
			want(t, "Remove", d.Remove(name), api.ErrNoFile)
			want(t, "Rename", d.Rename(name, "a"), api.ErrNoFile)
			want(t, "Rename", d.Rename(name, name), api.ErrNoFile)
			want(t, "Rename", d.Rename(name, strings.Repeat("m", 100)), api.ErrNoFile)
			if !refusedRead(d, name, api.ErrNoFile) || d.Has(name) {
				t.Errorf("%q is there", name)
			}
		})
	}
}

// P4.2: a file is called otherwise, its bytes and what is sure of them as they were.
func TestRename(t *testing.T) {
	for _, x := range []struct{ from, to, want string }{
		{"a", "d", `"bb":0:"pq" "d":1:"xyz"  free 943 ops 1 off false`},
		{"a", "dd", `"bb":0:"pq" "dd":1:"xyz"  free 942 ops 1 off false`},
		{"bb", "A", `"A":0:"pq" "a":1:"xyz"  free 944 ops 1 off false`},
		{"a", "a", `"a":1:"xyz" "bb":0:"pq"  free 943 ops 1 off false`},
		{"a", "bb", `"bb":1:"xyz"  free 962 ops 1 off false`},
		{"bb", "a", `"a":0:"pq"  free 964 ops 1 off false`},
	} {
		d := mustLoad(t, 981+2, File{"a", 1, []byte("xyz")}, File{"bb", 0, []byte("pq")})
		want(t, "Rename", d.Rename(x.from, x.to), api.OK)
		if is := told(d); is != x.want {
			t.Errorf("Rename(%q, %q): %s", x.from, x.to, is)
		}
	}
}

// P4.2: a longer name with just the room it needs, and with one less.
func TestRenameRoom(t *testing.T) {
	for _, more := range []int{1, 2, 99} {
		to := strings.Repeat("n", 1+more)
		d := mustLoad(t, 20+more, File{"a", 1, []byte("xyz")})
		want(t, "with room", d.Rename("a", to), api.OK)
		if d.Free() != 0 || files(d) != fmt.Sprintf("%q:1:\"xyz\" ", to) {
			t.Error(told(d))
		}
		want(t, "a shorter name", d.Rename(to, "a"), api.OK)
		if d.Free() != more {
			t.Error(told(d))
		}
		d = mustLoad(t, 19+more, File{"a", 1, []byte("xyz")})
		kept(t, d, "without room", func() { want(t, "Rename", d.Rename("a", to), api.ErrNoSpace) })
	}
	d := mustLoad(t, 20, File{"a", 1, []byte("xyz")})
	want(t, "onto itself on a full disk", d.Rename("a", "a"), api.OK)
	want(t, "to a name that is as long", d.Rename("a", "b"), api.OK)
	if is := told(d); is != `"b":1:"xyz"  free 0 ops 2 off false` {
		t.Error(is)
	}
}

// P4.2: what is renamed over is gone, so a full disk has room for its name.
func TestRenameOver(t *testing.T) {
	to := strings.Repeat("n", 100)
	d := mustLoad(t, 20+116, File{"a", 1, []byte("xyz")}, File{to, 0, nil})
	want(t, "Rename", d.Rename("a", to), api.OK)
	if is := told(d); is != fmt.Sprintf("%q:1:\"xyz\"  free 17 ops 1 off false", to) {
		t.Error(is)
	}
	d = mustLoad(t, 20+20, File{"a", 0, []byte("xyz")}, File{"b", 3, []byte("pqr")})
	want(t, "Rename", d.Rename("a", "b"), api.OK)
	want(t, "Crash", d.Crash(nil), api.OK)
	if is := files(d); is != `"b":0:"" ` {
		t.Errorf("what was sure of another file's bytes: %s", is)
	}
}

// P4.2: what is removed is gone, and its room is there.
func TestRemove(t *testing.T) {
	d := mustLoad(t, 100, File{"a", 1, []byte("xyz")}, File{"bb", 2, []byte("pq")})
	want(t, "Remove", d.Remove("a"), api.OK)
	if is := told(d); is != `"bb":2:"pq"  free 80 ops 1 off false` || d.Has("a") || !refusedRead(d, "a", api.ErrNoFile) {
		t.Error(is)
	}
	kept(t, d, "twice", func() { want(t, "Remove", d.Remove("a"), api.ErrNoFile) })
	want(t, "Append", d.Append("a", []byte("n")), api.OK)
	if is := files(d); is != `"a":0:"n" "bb":2:"pq" ` {
		t.Errorf("a new file of an old name: %s", is)
	}
}

// P4.2: renames and removes are sure at once.
func TestSureAtOnce(t *testing.T) {
	d := mustLoad(t, 1000, File{"a", 3, []byte("xyz")}, File{"b", 1, []byte("p")}, File{"c", 2, []byte("qr")})
	want(t, "Rename", d.Rename("a", "d"), api.OK)
	want(t, "Remove", d.Remove("b"), api.OK)
	want(t, "Crash", d.Crash(nil), api.OK)
	if is := files(d); is != `"c":2:"qr" "d":3:"xyz" ` {
		t.Error(is)
	}
}

// P4.2: names that may not be, of all four, also with the power off; nothing is counted, nothing cut.
func TestWrongNames(t *testing.T) {
	for _, off := range []bool{false, true} {
		d := mustLoad(t, 30, File{"a", 0, []byte("x")})
		want(t, "Cut", d.Cut(0), api.OK)
		if off {
			want(t, "Sync", d.Sync("a"), api.ErrPower)
		}
		for _, name := range wrongNames() {
			kept(t, d, name, func() {
				want(t, "Append", d.Append(name, nil), api.ErrArg)
				want(t, "Append", d.Append(name, make([]byte, 4096)), api.ErrArg)
				want(t, "Sync", d.Sync(name), api.ErrArg)
				want(t, "Remove", d.Remove(name), api.ErrArg)
				want(t, "Rename", d.Rename(name, "a"), api.ErrArg)
				want(t, "Rename", d.Rename("a", name), api.ErrArg)
				want(t, "Rename", d.Rename("none", name), api.ErrArg)
				want(t, "Rename", d.Rename(name, name), api.ErrArg)
				if !refusedRead(d, name, api.ErrArg) || d.Has(name) {
					t.Errorf("%q is there", name)
				}
			})
		}
		kept(t, d, "a long Append", func() { want(t, "Append", d.Append("a", make([]byte, 4097)), api.ErrArg) })
	}
}

// P4.2: a name may have all bytes but 0, up to 100 of them.
func TestGoodNames(t *testing.T) {
	for _, name := range goodNames() {
		d := mustNew(t, 1000)
		want(t, "Append", d.Append(name, []byte("xy")), api.OK)
		want(t, "Sync", d.Sync(name), api.OK)
		if !d.Has(name) || d.Free() != 1000-16-len(name)-2 || !slices.Equal(d.Names(), []string{name}) {
			t.Errorf("%q: %s", name, told(d))
		}
		want(t, "Rename", d.Rename(name, "other"), api.OK)
		want(t, "Rename", d.Rename("other", name), api.OK)
		want(t, "Remove", d.Remove(name), api.OK)
		if d.Free() != 1000 || d.Ops() != 5 {
			t.Errorf("%q: %s", name, told(d))
		}
	}
}

// P4.2: with the power off ErrPower comes ahead of a call's own error; with a cut at hand behind it.
func TestWhichErrorIsFirst(t *testing.T) {
	own := func(d *Disk) []api.Errno {
		return []api.Errno{
			d.Append("a", make([]byte, 100)), d.Append("b", make([]byte, 4096)), d.Sync("b"), d.Remove("b"),
			d.Rename("b", "a"), d.Rename("a", strings.Repeat("n", 100)), d.Rename("b", strings.Repeat("n", 100)),
		}
	}
	first := []api.Errno{api.ErrNoSpace, api.ErrNoSpace, api.ErrNoFile, api.ErrNoFile, api.ErrNoFile, api.ErrNoSpace, api.ErrNoFile}
	d := mustLoad(t, 30, File{"a", 0, []byte("x")})
	want(t, "Cut", d.Cut(0), api.OK)
	kept(t, d, "a cut at hand", func() {
		if got := own(d); !slices.Equal(got, first) {
			t.Error(got)
		}
	})
	want(t, "the cut", d.Append("a", nil), api.ErrPower)
	kept(t, d, "the power off", func() {
		for i, e := range own(d) {
			if e != api.ErrPower {
				t.Errorf("%d: %v", i, e)
			}
		}
	})
}

// writes are calls that are raw writes, each of them, one behind the other.
func writes() []func(d *Disk) api.Errno {
	return []func(d *Disk) api.Errno{
		func(d *Disk) api.Errno { return d.Append("a", []byte("one")) },
		func(d *Disk) api.Errno { return d.Append("a", nil) },
		func(d *Disk) api.Errno { return d.Sync("a") },
		func(d *Disk) api.Errno { return d.Append("b", []byte("two")) },
		func(d *Disk) api.Errno { return d.Rename("a", "a") },
		func(d *Disk) api.Errno { return d.Rename("a", "cc") },
		func(d *Disk) api.Errno { return d.Append("cc", []byte("more")) },
		func(d *Disk) api.Errno { return d.Rename("b", "cc") },
		func(d *Disk) api.Errno { return d.Sync("cc") },
		func(d *Disk) api.Errno { return d.Remove("cc") },
	}
}

// P4.3: cut behind each number of raw writes: so many are done, the next one is not, and nothing is from then on.
func TestCut(t *testing.T) {
	l := writes()
	for n := range len(l) + 1 {
		d, like := mustNew(t, 1000), mustNew(t, 1000)
		want(t, "Cut", d.Cut(n), api.OK)
		for _, w := range l[:n] {
			want(t, "ahead of the cut", w(d), api.OK)
			want(t, "ahead of the cut", w(like), api.OK)
			if told(d) != told(like) {
				t.Fatalf("%d: %s", n, told(d))
			}
		}
		for _, w := range append(slices.Clone(l[n:]), l...) {
			want(t, "from the cut on", w(d), api.ErrPower)
			if files(d) != files(like) || d.Free() != like.Free() || d.Ops() != n || !d.Off() {
				t.Fatalf("%d: %s", n, told(d))
			}
		}
	}
}

// P4.3: numbers below 0 are none, and let an earlier Cut be; the greatest one is never reached.
func TestCutNumbers(t *testing.T) {
	d := mustNew(t, 1000)
	want(t, "Cut", d.Cut(1), api.OK)
	for _, n := range []int{-1, -2, math.MinInt} {
		want(t, "Cut", d.Cut(n), api.ErrArg)
	}
	want(t, "Append", d.Append("a", nil), api.OK)
	want(t, "Append", d.Append("a", nil), api.ErrPower)
	for _, n := range []int{-1, math.MinInt} {
		want(t, "Cut with the power off", d.Cut(n), api.ErrArg)
	}
	for _, n := range []int{1 << 32, 1 << 40, math.MaxInt} {
		d := mustNew(t, 1000)
		want(t, "Append", d.Append("a", nil), api.OK)
		want(t, "Cut", d.Cut(n), api.OK)
		for range 300 {
			want(t, "Append", d.Append("a", []byte("x")), api.OK)
		}
		if d.Off() || d.Ops() != 301 {
			t.Error(told(d))
		}
	}
}

// P4.3: a later Cut takes the place of an earlier one, from where it stands.
func TestCutAgain(t *testing.T) {
	for _, x := range []struct{ first, done, second int }{{0, 0, 0}, {0, 0, 2}, {1, 0, 3}, {2, 1, 0}, {2, 2, 2}, {9, 1, 1}, {1, 1, 5}} {
		d := mustNew(t, 1000)
		want(t, "Cut", d.Cut(x.first), api.OK)
		for range x.done {
			want(t, "Append", d.Append("a", nil), api.OK)
		}
		want(t, "Cut", d.Cut(x.second), api.OK)
		for range x.second {
			want(t, "Append", d.Append("a", nil), api.OK)
		}
		if d.Off() {
			t.Errorf("%v: the power is off ahead of the cut", x)
		}
		want(t, "the cut", d.Append("a", nil), api.ErrPower)
		if !d.Off() || d.Ops() != x.done+x.second {
			t.Errorf("%v: %s", x, told(d))
		}
	}
}

// P4.3: behind the power's going off no Cut brings it back; nor is one that came meanwhile at hand behind a crash (P4.4).
func TestCutOff(t *testing.T) {
	d := mustNew(t, 1000)
	want(t, "Append", d.Append("a", []byte("x")), api.OK)
	want(t, "Cut", d.Cut(0), api.OK)
	want(t, "Sync", d.Sync("a"), api.ErrPower)
	kept(t, d, "Cut with the power off", func() {
		want(t, "Cut", d.Cut(1), api.OK)
		want(t, "Append", d.Append("a", nil), api.ErrPower)
		want(t, "Rename", d.Rename("a", "b"), api.ErrPower)
	})
	want(t, "Crash", d.Crash(nil), api.OK)
	for range 5 {
		want(t, "Append", d.Append("a", nil), api.OK)
	}
	if d.Off() || d.Ops() != 6 {
		t.Error(told(d))
	}
}

// P4.3: what is refused, and what only asks, is no raw write.
func TestOps(t *testing.T) {
	d := mustNew(t, 60)
	for i, w := range writes()[:4] {
		want(t, "a raw write", w(d), api.OK)
		if d.Ops() != i+1 {
			t.Error(told(d))
		}
	}
	kept(t, d, "no raw writes", func() {
		want(t, "Append", d.Append("a", make([]byte, 100)), api.ErrNoSpace)
		want(t, "Append", d.Append("", nil), api.ErrArg)
		want(t, "Sync", d.Sync("none"), api.ErrNoFile)
		want(t, "Remove", d.Remove("none"), api.ErrNoFile)
		want(t, "Rename", d.Rename("none", "a"), api.ErrNoFile)
		want(t, "Rename", d.Rename("a", strings.Repeat("n", 100)), api.ErrNoSpace)
		d.Read("a")
		d.Has("a")
		want(t, "Cut", d.Cut(7), api.OK)
	})
	want(t, "Crash", d.Crash(nil), api.OK)
	if d.Ops() != 4 {
		t.Errorf("behind a crash: %d", d.Ops())
	}
}

// P4.4: each pick of one file, as a uint, by what is not sure and 1.
func TestCrashPicks(t *testing.T) {
	b := sample(10)
	for safe := range 11 {
		parts := uint(11 - safe)
		for _, pick := range []int{0, 1, 2, 3, 9, 10, 11, 12, 100, 1 << 40, math.MaxInt, -1, -2, -10, -11, math.MinInt, math.MinInt + 1} {
			d := mustLoad(t, 1000, File{"a", safe, b})
			want(t, "Crash", d.Crash([]int{pick}), api.OK)
			keep := safe + int(uint(pick)%parts)
			l := d.Dump()
			if len(l) != 1 || l[0].Safe != keep || !bytes.Equal(l[0].Bytes, b[:keep]) || d.Free() != 1000-17-keep {
				t.Errorf("%d of them sure, pick %d: %s", safe, pick, told(d))
			}
		}
	}
}

// P4.4: answers that are written out: 2^64 - 1 modulo 4 is 3, modulo 3 is 0.
func TestCrashKnown(t *testing.T) {
	d := mustLoad(t, 1000, File{"a", 1, []byte("wxyz")}, File{"b", 1, []byte("pqr")}, File{"c", 0, []byte("m")}, File{"d", 2, []byte("no")})
	want(t, "Crash", d.Crash([]int{-1, -1, -1, -1}), api.OK)
	if is := files(d); is != `"a":4:"wxyz" "b":1:"p" "c":1:"m" "d":2:"no" ` {
		t.Error(is)
	}
}

// P4.4: files by name, those with all bytes sure among them; fewer picks than files, and more.
func TestCrashOrder(t *testing.T) {
	l := []File{{"c", 1, []byte("cdef")}, {"a", 0, []byte("ghi")}, {"b", 2, []byte("jk")}, {"ab", 0, []byte("lmn")}}
	for _, x := range []struct {
		picks []int
		want  string
	}{
		{nil, `"a":0:"" "ab":0:"" "b":2:"jk" "c":1:"c" `},
		{[]int{}, `"a":0:"" "ab":0:"" "b":2:"jk" "c":1:"c" `},
		{[]int{1}, `"a":1:"g" "ab":0:"" "b":2:"jk" "c":1:"c" `},
		{[]int{1, 2}, `"a":1:"g" "ab":2:"lm" "b":2:"jk" "c":1:"c" `},
		{[]int{0, 0, 1, 2}, `"a":0:"" "ab":0:"" "b":2:"jk" "c":3:"cde" `},
		{[]int{3, 2, 1, 3}, `"a":3:"ghi" "ab":2:"lm" "b":2:"jk" "c":4:"cdef" `},
		{[]int{4, 5, 6, 7, 8, 9, -1}, `"a":0:"" "ab":1:"l" "b":2:"jk" "c":4:"cdef" `},
	} {
		d := mustLoad(t, 1000, l...)
		want(t, "Crash", d.Crash(x.picks), api.OK)
		if is := files(d); is != x.want {
			t.Errorf("%v: %s", x.picks, is)
		}
	}
	want(t, "of a disk without files", mustNew(t, 10).Crash([]int{1, 2}), api.OK)
}

// P4.4: the power is on, and nothing is to be cut; what was lost makes room.
func TestCrashPower(t *testing.T) {
	for _, off := range []bool{false, true} {
		d := mustLoad(t, 40, File{"a", 1, make([]byte, 23)})
		want(t, "Cut", d.Cut(0), api.OK)
		if off {
			want(t, "Sync", d.Sync("a"), api.ErrPower)
		}
		want(t, "Crash", d.Crash([]int{2}), api.OK)
		if d.Off() || d.Free() != 20 {
			t.Error(told(d))
		}
		want(t, "Append", d.Append("a", make([]byte, 20)), api.OK)
		want(t, "Append", d.Append("a", make([]byte, 1)), api.ErrNoSpace)
		want(t, "Cut", d.Cut(1), api.OK)
		want(t, "Sync", d.Sync("a"), api.OK)
		want(t, "Sync", d.Sync("a"), api.ErrPower)
	}
}

// P4.4: bytes that were lost don't come back behind an Append.
func TestCrashAppend(t *testing.T) {
	d := mustNew(t, 1000)
	want(t, "Append", d.Append("a", []byte("abcdef")), api.OK)
	want(t, "Crash", d.Crash([]int{2}), api.OK)
	want(t, "Append", d.Append("a", []byte("X")), api.OK)
	if is := files(d); is != `"a":2:"abX" ` {
		t.Error(is)
	}
	want(t, "Crash", d.Crash([]int{2}), api.OK)
	if is := files(d); is != `"a":2:"ab" ` {
		t.Error(is)
	}
}

// P4.5: with the power on and off.
func TestAsk(t *testing.T) {
	d := mustLoad(t, 200, File{"b", 0, []byte("xyz")}, File{"a/b", 0, nil}, File{"a", 1, []byte("p")}, File{"\xff", 0, nil}, File{"B", 0, nil})
	for range 2 {
		for name, text := range map[string]string{"b": "xyz", "a/b": "", "a": "p", "\xff": "", "B": ""} {
			if b, e := d.Read(name); string(b) != text || e != api.OK || !d.Has(name) {
				t.Errorf("%q: %q %v", name, b, e)
			}
		}
		if names := d.Names(); !slices.Equal(names, []string{"B", "a", "a/b", "b", "\xff"}) || d.Free() != 109 {
			t.Errorf("%q %d", names, d.Free())
		}
		if !refusedRead(d, "c", api.ErrNoFile) || d.Has("c") || !refusedRead(d, "", api.ErrArg) || d.Has("") {
			t.Error("no such file")
		}
		want(t, "Cut", d.Cut(0), api.OK)
		d.Sync("a")
		if !d.Off() {
			t.Error("the power is on")
		}
	}
}

// R3: what is handed in isn't changed, and what a disk keeps is no piece of it.
func TestGivenIsApart(t *testing.T) {
	whole := bytes.Repeat([]byte{0xA5}, 20)
	copy(whole, "abc")
	l := []File{{"b", 1, whole[:3:10]}, {"a", 0, whole[2:3]}}
	d := mustLoad(t, 1000, l...)
	want(t, "Append", d.Append("b", []byte("xyz")), api.OK)
	want(t, "Append", d.Append("a", []byte("xyz")), api.OK)
	if string(whole) != "abc"+strings.Repeat("\xa5", 17) || l[0].Name != "b" || l[0].Safe != 1 || len(l[0].Bytes) != 3 || l[1].Name != "a" {
		t.Errorf("%q %v", whole, l)
	}
	kept(t, d, "a file's bytes", func() {
		clear(whole)
		l[0], l[1] = File{}, File{}
	})
	b := append(make([]byte, 0, 50), "pqr"...)
	want(t, "Append", d.Append("new", b), api.OK)
	want(t, "Append", d.Append("new", b), api.OK)
	if string(b[:6]) != "pqr\x00\x00\x00" {
		t.Errorf("%q", b[:6])
	}
	kept(t, d, "appended bytes", func() { clear(b[:50]) })
	picks := []int{5, -1, 7, 9}
	want(t, "Crash", d.Crash(picks), api.OK)
	if !slices.Equal(picks, []int{5, -1, 7, 9}) {
		t.Error(picks)
	}
}

// R3: what is answered is new memory, also beside what is answered later.
func TestAnswersAreApart(t *testing.T) {
	d := mustLoad(t, 1000, File{"a", 1, []byte("xyz")}, File{"b", 0, []byte("pq")})
	want(t, "Crash", d.Crash([]int{1, 1}), api.OK)
	kept(t, d, "answers", func() {
		b, _ := d.Read("a")
		b[0] = 'Z'
		_ = append(b, "beyond"...)
		names := d.Names()
		names[0] = "other"
		l := d.Dump()
		l[0].Bytes[0], l[1].Bytes[0] = 'Q', 'R'
		_ = append(l[0].Bytes, "beyond"...)
		l[0].Name, l[1].Safe = "other", 5
	})
	b, _ := d.Read("a")
	l := d.Dump()
	want(t, "Append", d.Append("a", []byte("more")), api.OK)
	want(t, "Remove", d.Remove("b"), api.OK)
	if string(b) != "xy" || string(l[0].Bytes) != "xy" || string(l[1].Bytes) != "p" || len(l) != 2 {
		t.Errorf("%q %v", b, l)
	}
}

// R3: two disks of one list of files, and two files of the same bytes, go apart.
func TestDisksAreApart(t *testing.T) {
	b := append(make([]byte, 0, 50), "xyz"...)
	l := []File{{"a", 1, b}, {"b", 1, b}}
	one, two := mustLoad(t, 1000, l...), mustLoad(t, 1000, l...)
	kept(t, two, "the other disk", func() {
		want(t, "Append", one.Append("a", []byte("1")), api.OK)
		want(t, "Append", one.Append("b", []byte("2")), api.OK)
		want(t, "Cut", one.Cut(0), api.OK)
		want(t, "Sync", one.Sync("a"), api.ErrPower)
	})
	if is := files(one); is != `"a":1:"xyz1" "b":1:"xyz2" ` {
		t.Error(is)
	}
}

// A likeDisk is a disk as the chapter says it, its files in a row.
type likeDisk struct {
	capacity, ops, left int
	off                 bool
	row                 []File
}

func (m *likeDisk) at(name string) int {
	return slices.IndexFunc(m.row, func(f File) bool { return f.Name == name })
}

func (m *likeDisk) cost() int {
	n := 0
	for _, f := range m.row {
		n += 16 + len(f.Name) + len(f.Bytes)
	}
	return n
}

// write does a raw write on a copy of the row, so that what it would cost is seen ahead of it.
func (m *likeDisk) write(there bool, change func(row []File) []File) api.Errno {
	if m.off {
		return api.ErrPower
	}
	if !there {
		return api.ErrNoFile
	}
	then := likeDisk{row: change(slices.Clone(m.row))}
	if then.cost() > m.capacity {
		return api.ErrNoSpace
	}
	if m.left == 0 {
		m.off = true
		return api.ErrPower
	}
	m.left--
	m.ops++
	m.row = then.row
	slices.SortFunc(m.row, func(a, b File) int { return strings.Compare(a.Name, b.Name) })
	return api.OK
}

func (m *likeDisk) append(name string, b []byte) api.Errno {
	return m.write(true, func(row []File) []File {
		i := m.at(name)
		if i < 0 {
			return append(row, File{name, 0, b})
		}
		row[i].Bytes = slices.Concat(row[i].Bytes, b)
		return row
	})
}

func (m *likeDisk) sync(name string) api.Errno {
	return m.write(m.at(name) >= 0, func(row []File) []File {
		i := m.at(name)
		row[i].Safe = len(row[i].Bytes)
		return row
	})
}

func (m *likeDisk) rename(from, to string) api.Errno {
	return m.write(m.at(from) >= 0, func(row []File) []File {
		f := row[m.at(from)]
		row = slices.DeleteFunc(row, func(f File) bool { return f.Name == from || f.Name == to })
		return append(row, File{to, f.Safe, f.Bytes})
	})
}

func (m *likeDisk) remove(name string) api.Errno {
	return m.write(m.at(name) >= 0, func(row []File) []File {
		return slices.DeleteFunc(row, func(f File) bool { return f.Name == name })
	})
}

func (m *likeDisk) crash(picks []int) {
	for i, f := range m.row {
		keep := f.Safe
		if i < len(picks) {
			keep += int(uint(picks[i]) % uint(len(f.Bytes)-f.Safe+1))
		}
		m.row[i] = File{f.Name, keep, f.Bytes[:keep:keep]}
	}
	m.off, m.left = false, -1
}

func (m *likeDisk) told() string {
	var s strings.Builder
	for _, f := range m.row {
		fmt.Fprintf(&s, "%q:%d:%q ", f.Name, f.Safe, f.Bytes)
	}
	return fmt.Sprintf("%s free %d ops %d off %v", s.String(), m.capacity-m.cost(), m.ops, m.off)
}

// walk does what bytes say, on a disk and on what it is like; they must tell the same behind each call.
func walk(t *testing.T, steps []byte) {
	d, m := mustNew(t, 150), &likeDisk{capacity: 150, left: -1}
	names := []string{"a", "b", "cc", "a long name"}
	for len(steps) >= 3 {
		op, x, y := steps[0]%8, steps[1], steps[2]
		steps = steps[3:]
		name, other := names[x%4], names[y%4]
		switch op {
		case 0, 1:
			want(t, "Append", d.Append(name, sample(int(y)%40)), m.append(name, sample(int(y)%40)))
		case 2:
			want(t, "Sync", d.Sync(name), m.sync(name))
		case 3:
			want(t, "Rename", d.Rename(name, other), m.rename(name, other))
		case 4:
			want(t, "Remove", d.Remove(name), m.remove(name))
		case 5:
			want(t, "Cut", d.Cut(int(y)%8), api.OK)
			if !m.off {
				m.left = int(y) % 8
			}
		default:
			picks := []int{int(x), -int(y), int(x) * int(y)}
			safeBehind(t, d, picks)
			m.crash(picks)
		}
		if told(d) != m.told() {
			t.Fatalf("call %d: %s, not %s", op, told(d), m.told())
		}
	}
}

// safeBehind crashes a disk: each file has its sure bytes then, and a beginning of the others.
func safeBehind(t *testing.T, d *Disk, picks []int) {
	t.Helper()
	was := d.Dump()
	want(t, "Crash", d.Crash(picks), api.OK)
	is := d.Dump()
	if len(is) != len(was) {
		t.Fatalf("%d files, not %d", len(is), len(was))
	}
	for i, f := range is {
		if f.Name != was[i].Name || f.Safe != len(f.Bytes) || f.Safe < was[i].Safe || !bytes.HasPrefix(was[i].Bytes, f.Bytes) {
			t.Errorf("%v, not a beginning of %v", f, was[i])
		}
	}
}

// P4.1 to P4.6: long walks are as the chapter's words have them.
func TestWalks(t *testing.T) {
	for n := range 300 {
		walk(t, sample(300+3*n))
	}
}

// P4.6: what is sure stays, whatever crashes, while its file is neither removed, renamed nor renamed over.
func TestSureStays(t *testing.T) {
	d := mustNew(t, 10000)
	var sure []byte
	for i, pick := range []int{0, 1, -1, 5, math.MaxInt, math.MinInt, 3, 2} {
		b := sample(10 + i)
		want(t, "Append", d.Append("a", b), api.OK)
		want(t, "Sync", d.Sync("a"), api.OK)
		now, _ := d.Read("a")
		if !bytes.HasPrefix(now, sure) || !bytes.HasSuffix(now, b) {
			t.Fatalf("%q", now)
		}
		sure = now
		want(t, "Append", d.Append("a", sample(7)), api.OK)
		want(t, "Append", d.Append("b", sample(i)), api.OK)
		want(t, "Remove", d.Remove("b"), api.OK)
		want(t, "Cut", d.Cut(i%2), api.OK)
		d.Append("a", sample(5))
		d.Remove("a")
		if i%2 == 1 {
			want(t, "Remove", d.Remove("a"), api.ErrPower)
		}
		safeBehind(t, d, []int{pick})
		if now, e := d.Read("a"); !bytes.HasPrefix(now, sure) || e != api.OK {
			t.Fatalf("%d: %q, not %q", i, now, sure)
		}
	}
}

// P4.3: raw writes are counted by an atomic, so that they may be asked for from aside.
func TestOpsFromAside(t *testing.T) {
	d := mustNew(t, 1000)
	done := make(chan bool)
	go func() {
		defer close(done)
		last := 0
		for range 2000 {
			n := d.Ops()
			if n < last || n > 500 {
				t.Errorf("%d behind %d", n, last)
			}
			last = n
		}
	}()
	for range 500 {
		want(t, "Append", d.Append("a", []byte("x")), api.OK)
	}
	<-done
	if d.Ops() != 500 {
		t.Error(d.Ops())
	}
}

func FuzzDisk(f *testing.F) {
	for n := range 5 {
		f.Add(sample(30 * n))
	}
	f.Fuzz(walk)
}
