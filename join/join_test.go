package join

import (
	"bytes"
	"cmp"
	"encoding/hex"
	"maps"
	"math"
	"math/bits"
	"math/rand/v2"
	"reflect"
	"slices"
	"strings"
	"testing"

	"sawyer/api"
	"sawyer/hash"
	"sawyer/rows"
	"sawyer/txn"
)

// The chapter's example.
func TestExample(t *testing.T) {
	b := treeWorld(t, 1).begin()
	b.waits(1, "a", 0).waits(1, "b", 1).had(1, "a", Place{false, 0})
	b.joins(1, 1, 1).had(1, "a", Place{true, 0})
	b.had(1, "b", Place{false, 1}).joins(1, 1, 2).had(1, "b", Place{true, 1})
	b.commits(api.OK)
}

// DOC's examples 1 and 9: a head of size 1, its root the leaf's hash; a proof of size 5 where it is 4.
func TestSmall(t *testing.T) {
	b := treeWorld(t, 1).begin().waits(1, "x", 0).joins(1, 32, 1)
	h, _ := b.latest(1)
	if h.Root != leafHash("x") || h.Root != hash.Leaf([]byte("x")) || !slices.Equal(h.Nodes, []string{h.Root}) {
		t.Fatal(h)
	}
	b.waits(1, "y", 1).waits(1, "z", 2).waits(1, "", 3).joins(1, 32, 4)
	_, f := b.inclusion(1, 1, 5)
	_, g := b.consistency(1, 1, 5)
	b.is(f, api.ErrRange).is(g, api.ErrRange)
}

func unhex(t *testing.T, s string) string {
	t.Helper()
	b, err := hex.DecodeString(strings.ReplaceAll(s, " ", ""))
	if err != nil {
		t.Fatal(err)
	}
	return string(b)
}

// P20.1, P20.2: all rows that are written, reckoned by hand; the hash of the leaf of no bytes is that of RFC 6962's tests.
func TestKnown(t *testing.T) {
	const none = "6e340b9cffb37a989ca544e6bb780a2c78901d3fb33738768511a30617afa01d"
	const zero = "96a296d224f285c67bee93c30f8a309157f0daa35dc5b87e410b78630a09cfc7" // of one byte 0
	const both = "fac54203e7cc696cf0dfcb42c92a1d9dbaf70ad9e621f4bd8d98662f00e3c125"
	const tree = "00 00 00 00 00 00 00 40 "
	b := treeWorld(t, 64).begin()
	look := func(from, to string, want ...string) {
		t.Helper()
		l := b.x.Scan([]byte(unhex(t, tree+from)), []byte(unhex(t, tree+to)))
		if 2*len(l) != len(want) {
			t.Fatal(len(l), "rows")
		}
		for i, x := range l {
			if string(x.Key) != unhex(t, tree+want[2*i]) || string(x.Value) != unhex(t, want[2*i+1]) {
				t.Fatalf("%x: %x, not %s: %s", x.Key, x.Value, want[2*i], want[2*i+1])
			}
		}
	}
	b.waits(64, "", 0).waits(64, "\x00", 1)
	look("01", "07",
		"01", "02 02",
		"02 00 00 00 00 00 00 00 00", "",
		"02 00 00 00 00 00 00 00 01", "00",
		"04"+none, "00 00",
		"04"+zero, "00 01")
	b.raw(at(64, 1), nums(300, 2)).waits(64, "?", 300)
	look("01", "02", "01", "ad 02 03")
	look("02 00 00 00 00 00 00 00 02", "03", "02 00 00 00 00 00 00 01 2c", "3f")
	b.rawGone(at(64, 2, 300)).raw(at(64, 1), nums(2, 2)).rawGone(placeAt(64, "?"))
	b.joins(64, 32, 2)
	look("02", "03")
	look("03", "06",
		"03 00 00 00 00 00 00 00 00", "",
		"03 00 00 00 00 00 00 00 01", "00",
		"04"+none, "01 00",
		"04"+zero, "01 01",
		"05 00 00 00 00 00 00 00 00 00 00 00 00 00 00 00 00", none,
		"05 00 00 00 00 00 00 00 00 00 00 00 00 00 00 00 01", zero,
		"05 00 00 00 00 00 00 00 01 00 00 00 00 00 00 00 00", both)
	look("01", "02", "01", "02 00")
	h, _ := b.latest(64)
	want := withCode(64, rows.Head{Size: 2, Root: unhex(t, both), Tick: 19, Epoch: 3, Nodes: []string{unhex(t, both)}})
	if !reflect.DeepEqual(h, want) {
		t.Fatalf("%x, not %x", h, want)
	}
	look("06", "07", "06", "02 13 03"+both+hex.EncodeToString([]byte(want.Sig))+both)
}

// P20.1: leaves of at most 512 bytes, each a leaf of its own.
func TestQueueLengths(t *testing.T) {
	b := treeWorld(t, 1).begin()
	n := 0
	for _, size := range []int{0, 1, 2, 31, 32, 33, 127, 128, 255, 256, 511, 512} {
		b.waits(1, strings.Repeat("l", size), n).had(1, strings.Repeat("l", size), Place{false, n})
		n++
	}
	for _, size := range []int{513, 514, 768, 1023, 1024, 1025, 1 << 16, 1<<16 + 1} {
		b.refused(1, strings.Repeat("l", size), api.ErrArg)
	}
	b.waits(1, strings.Repeat("L", 512), n).joins(1, 32, n+1)
	b.commits(api.OK)
	p, tells, f := Queue(b.world.begin().x, 1, nil)
	if p != (Place{true, 0}) || !tells || f != api.OK {
		t.Fatal(p, tells, f)
	}
}

// P20.1: a leaf is known by its hash, wherever it is, in whatever state the tree; a new one is not.
func TestQueueAgain(t *testing.T) {
	b := treeWorld(t, 1, 2).begin().queued(1, 0, 5).joins(1, 3, 3)
	for _, state := range []int{1, 2} {
		for _, quota := range []int{0, 1, 2, 1000} {
			b.raw(at(1, 0), treeBytes(1, state, quota))
			for n := range 5 {
				b.had(1, leafOf(n), Place{n < 3, n})
			}
		}
	}
	b.raw(at(1, 1), "?").had(1, leafOf(4), Place{false, 4}) // no count is asked for
	b.raw(at(1, 6), "?").had(1, leafOf(2), Place{true, 2})  // no head
	b.rawGone(at(1, 2, 4)).had(1, leafOf(4), Place{false, 4})
	b.rawGone(at(1, 3, 2)).had(1, leafOf(2), Place{true, 2})
	b.fill(256-len(b.m.wrote), 256-len(b.m.guards)).had(1, leafOf(0), Place{true, 0})
}

// P20.1: the row of table 4 is a place, or ErrCorrupt.
func TestPlaces(t *testing.T) {
	b := treeWorld(t, 1).begin()
	for _, in := range []bool{false, true} {
		for _, n := range []int{0, 1, 127, 128, 300, most - 1, most, most + 1, greatest} {
			p := Place{in, n}
			b.raw(placeAt(1, "x"), placeBytes(p)).had(1, "x", p)
			row := placeBytes(p)
			for size := range len(row) {
				b.raw(placeAt(1, "x"), row[:size]).refused(1, "x", api.ErrCorrupt)
			}
			for _, more := range []string{"\x00", "\x01", row} {
				b.raw(placeAt(1, "x"), row+more).refused(1, "x", api.ErrCorrupt)
			}
		}
	}
	for _, row := range []string{nums(2, 0), nums(3, 1), nums(128, 0), nums(256, 0), nums(257, 1), "\x80\x00\x00", "\x81\x00\x00", "\x00\x80\x00", "\x01\xff\x00",
		nums(1 << 62), nums(0, 1<<62), nums(1, math.MaxInt), "\x01\xff\xff\xff\xff\xff\xff\xff\xff\xff\x01", "?", "??", strings.Repeat("\x00", 1024)} {
		b.raw(placeAt(1, "x"), row).refused(1, "x", api.ErrCorrupt)
	}
	b.rawGone(placeAt(1, "x")).waits(1, "x", 0)
}

// P20.1: all rows of up to two bytes.
func TestPlacesAll(t *testing.T) {
	b := treeWorld(t, 1).begin()
	for n := range 1 << 16 {
		row := string([]byte{byte(n >> 8), byte(n)})
		b.m.put(placeAt(1, "x"), row)
		b.x.Put([]byte(placeAt(1, "x")), []byte(row))
		want, wantTrue, g := b.m.queue(1, "x")
		if p, tells, f := Queue(b.x, 1, []byte("x")); p != want || tells != wantTrue || f != g {
			t.Fatalf("%q: %v %t %d, not %v %t %d", row, p, tells, f, want, wantTrue, g)
		}
		if n>>8 < 2 && n&255 < 128 != (g == api.OK) {
			t.Fatal(n, g)
		}
	}
}

// P20.1: as many wait as the quota says, and no more; what is taken in makes room.
func TestQuota(t *testing.T) {
	for _, quota := range []int{0, 1, 2, 33} {
		b := treeWorld(t, 1, 2).begin().raw(at(1, 0), treeBytes(1, 1, quota))
		b.queued(1, 0, quota).refused(1, "more", api.ErrQuota)
		if quota > 0 {
			b.had(1, leafOf(0), Place{false, 0}).joins(1, 1, 1)
			b.waits(1, "more", quota).refused(1, "and more", api.ErrQuota).had(1, "more", Place{false, quota})
		}
		b.raw(at(1, 0), treeBytes(1, 1, quota+1)).queue(1, "and more")
		b.refused(1, "yet another", api.ErrQuota).waits(2, "other", 0)
		b.commits(api.OK)
	}
	b := treeWorld(t, 1).begin()
	for _, quota := range []int{0, 1, 5, 999, 1000} {
		b.raw(at(1, 0), treeBytes(1, 1, quota))
		for _, pending := range []int{0, 1, quota - 2, quota - 1, quota, quota + 1, 1001, 1 << 32, most - 1, most} {
			if pending >= 0 {
				b.rawGone(placeAt(1, "x")).raw(at(1, 1), nums(pending+7, pending)).queue(1, "x")
			}
		}
	}
}

// P20.1: the number of the last leaf is MaxNum, but then there is none to come: what was Put stays.
func TestQueueLast(t *testing.T) {
	b := treeWorld(t, 1, 2).begin()
	b.raw(at(1, 1), nums(most-2, 0)).waits(1, "a", most-2).waits(1, "b", most-1)
	if v, _ := b.m.get(at(1, 1)); v != nums(most, 2) {
		t.Fatalf("%q", v)
	}
	b.refused(1, "c", api.ErrArg)
	if v, f := b.m.get(at(1, 2, most)); v != "c" || f != api.OK {
		t.Fatal(v, f)
	}
	b.had(1, "c", Place{false, most}).refused(1, "d", api.ErrArg)
	b.joins(1, 2, 2).stays(1, 1, api.ErrArg).had(1, "d", Place{true, 2}) // d stands where c did, and no count has it
	b.commits(api.OK)
}

// P20.1 to P20.3: ids that no tree has, trees that are not there.
func TestNoTree(t *testing.T) {
	w := treeWorld(t, 1, 2, 64)
	b := w.begin()
	for _, id := range append(oddIds(), 3, 63) {
		b.answers(id, api.ErrNoTree)
	}
	for _, row := range []string{"", "?", treeBytes(2, 1, 10), treeBytes(1, 0, 10), treeBytes(1, 4, 10), treeBytes(1, 1, 1001), treeBytes(1, 1, 10) + "\x00"} {
		b.raw(at(1, 0), row).answers(1, api.ErrCorrupt)
	}
	b.raw(at(1, 0), treeBytes(1, 3, 10)).answers(1, api.ErrNoTree).rawGone(at(1, 0)).answers(1, api.ErrNoTree)
	b.waits(64, "x", 0).joins(64, 1, 1)
	b.raw(at(64, 0), treeBytes(64, 3, 10)).answers(64, api.ErrNoTree)
	b.raw(at(64, 0), treeBytes(64, 1, 10)).had(64, "x", Place{true, 0})
}

// P20.1, P20.2, DOC's example 7: a Frozen tree takes in what waits, and lets nothing more wait; a Deleted one is not there.
func TestStates(t *testing.T) {
	b := treeWorld(t, 1).begin().queued(1, 0, 3).raw(at(1, 0), treeBytes(1, 2, 1000))
	b.refused(1, "more", api.ErrFrozen).joins(1, 2, 2).joins(1, 2, 3).stays(1, 2, api.ErrNothing)
	b.proves(1, 3)
	b.raw(at(1, 0), treeBytes(1, 3, 1000)).answers(1, api.ErrNoTree)
	b.raw(at(1, 0), treeBytes(1, 2, 1000)).refused(1, "more", api.ErrFrozen).had(1, leafOf(2), Place{true, 2})
	b.raw(at(1, 0), treeBytes(1, 1, 1000)).waits(1, "more", 3)
}

// R2, P20.1 to P20.3: a transaction that is none, or has ended: its error, behind what is asked first.
func TestDown(t *testing.T) {
	w := treeWorld(t, 1)
	asks := func(b *both, want api.Errno) {
		t.Helper()
		b.answers(1, want).answers(2, want).answers(65, api.ErrNoTree).answers(0, api.ErrNoTree).answers(-1, api.ErrNoTree)
		b.refused(1, strings.Repeat("l", 513), api.ErrArg).stays(1, 0, api.ErrArg).stays(1, 33, api.ErrArg)
		b.refused(0, strings.Repeat("l", 513), api.ErrArg).stays(0, 0, api.ErrArg)
	}
	for _, x := range []*txn.Txn{nil, {}, new(txn.Txn)} {
		asks(&both{w, x, &like{down: api.ErrArg}}, api.ErrArg)
	}
	b := w.begin()
	b.abort()
	asks(b, api.ErrDone)
	b = w.begin()
	b.commits(api.OK)
	asks(b, api.ErrDone)
	b = w.begin().waits(1, "x", 0).joins(1, 1, 1)
	b.commits(api.OK)
	asks(b, api.ErrDone)
}

// A fault is something for which Queue, or Integrate, is refused.
type fault struct {
	e            api.Errno
	id, take     int    // of the call, if not 0
	now          int    // of Integrate, if not 0
	leaf         string // of Queue, if not empty
	key, value   string // a row, if the key is not empty
	gone         bool   // it is not there
	puts, guards int    // of other keys
}

// pair are two faults, laid into a world of one tree, in which a leaf was queued that is not yet in.
func pair(t *testing.T, a, b fault) (*both, fault) {
	t.Helper()
	w := treeWorld(t, 1)
	w.begin().waits(1, "waiting", 0).commits(api.OK)
	call := fault{e: a.e, id: 1, take: 3, now: 15, leaf: "leaf"}
	for _, x := range []fault{b, a} { // the first one's row stands in the place of the other one's
		switch {
		case x.gone:
			w.begin().rawGone(x.key).commits(api.OK)
		case x.key != "":
			w.begin().raw(x.key, x.value).commits(api.OK)
		}
		call.id, call.take, call.now, call.leaf = cmp.Or(x.id, call.id), cmp.Or(x.take, call.take), cmp.Or(x.now, call.now), cmp.Or(x.leaf, call.leaf)
		call.puts, call.guards = max(x.puts, call.puts), max(x.guards, call.guards)
	}
	return w.begin().fill(call.puts, call.guards), call
}

// P20.1: of two faults the one that is named first is told.
func TestQueueOrder(t *testing.T) {
	long := strings.Repeat("l", 513)
	all := []fault{
		{e: api.ErrArg, leaf: long},
		{e: api.ErrNoTree, id: 65},
		{e: api.ErrNoTree, id: 9},
		{e: api.ErrNoTree, key: at(1, 0), gone: true},
		{e: api.ErrCorrupt, key: at(1, 0), value: "?"},
		{e: api.ErrCorrupt, key: at(1, 0), value: treeBytes(2, 3, 5)},
		{e: api.ErrNoTree, key: at(1, 0), value: treeBytes(1, 3, 0)},
		{e: api.ErrCorrupt, key: placeAt(1, "leaf"), value: nums(2, 0)},
		{e: api.OK, key: placeAt(1, "leaf"), value: nums(1, 9)}, // no fault, but nothing behind it is told
		{e: api.ErrFrozen, key: at(1, 0), value: treeBytes(1, 2, 0)},
		{e: api.ErrCorrupt, key: at(1, 1), value: nums(1, most+1)},
		{e: api.ErrQuota, key: at(1, 1), value: nums(most, 1000)},
		{e: api.ErrQuota, key: at(1, 0), value: treeBytes(1, 1, 1)},
		{e: api.ErrArg, guards: 256},
		{e: api.ErrArg, puts: 256},
		{e: api.ErrArg, puts: 255},
		{e: api.ErrArg, puts: 254},
		{e: api.ErrArg, key: at(1, 1), value: nums(most, 1)},
		{e: api.OK},
	}
	for i := range all {
		for j := i; j < len(all); j++ {
			b, call := pair(t, all[i], all[j])
			if p, tells, f := b.queue(call.id, call.leaf); f != call.e || tells != (p == Place{true, 9}) {
				t.Fatal(i, j, p, tells, f, call.e)
			}
		}
	}
}

// P20.2: of two faults the one that is named first is told.
func TestIntegrateOrder(t *testing.T) {
	all := []fault{
		{e: api.ErrArg, take: 33},
		{e: api.ErrArg, take: -1},
		{e: api.ErrArg, now: -1},
		{e: api.ErrArg, now: most + 1},
		{e: api.ErrNoTree, id: 65},
		{e: api.ErrNoTree, id: 9},
		{e: api.ErrNoTree, key: at(1, 0), gone: true},
		{e: api.ErrCorrupt, key: at(1, 0), value: "?"},
		{e: api.ErrCorrupt, key: at(1, 0), value: treeBytes(2, 3, 5)},
		{e: api.ErrNoTree, key: at(1, 0), value: treeBytes(1, 3, 0)},
		{e: api.ErrCorrupt, key: at(1, 7), value: nums(5, 3)},
		{e: api.ErrLease, key: at(1, 7), gone: true},
		{e: api.ErrLease, key: at(1, 7), value: nums(6, 3, 20)},
		{e: api.ErrLease, now: 20},
		{e: api.ErrArg, guards: 256},
		{e: api.ErrCorrupt, key: at(1, 6), value: "?"},
		{e: api.ErrNothing, key: at(1, 6), value: headBytes(madeHead(1, 0))}, // where nothing waits
		{e: api.ErrCorrupt, key: at(1, 1), value: nums(1, most+1)},
		{e: api.ErrArg, guards: 255},
		{e: api.ErrArg, puts: 256},
		{e: api.ErrArg, key: at(1, 6), value: headBytes(madeHead(1, most))},
		{e: api.ErrArg, puts: 251},
		{e: api.ErrArg, key: at(1, 1), value: nums(1, 0)},
		{e: api.OK},
	}
	for i := range all {
		for j := i; j < len(all); j++ {
			b, call := pair(t, all[i], all[j])
			if all[i].e == api.ErrNothing || all[j].e == api.ErrNothing && all[i].key != at(1, 6) {
				b.take(at(1, 2, 0))
			}
			if _, f := b.integrate(call.id, 5, 3, call.take, call.now); f != call.e {
				t.Fatal(i, j, f, call.e)
			}
		}
	}
}

// take takes a committed row away, and begins again, with as much as there was.
func (b *both) take(key string) {
	b.Helper()
	puts, guards := len(b.m.wrote), len(b.m.guards)
	b.abort()
	b.world.begin().rawGone(key).commits(api.OK)
	*b = *b.world.begin()
	b.fill(puts, guards)
}

// P20.2: which numbers of leaves and ticks may be, asked ahead of all else.
func TestIntegrateNumbers(t *testing.T) {
	w := treeWorld(t, 1)
	w.begin().queued(1, 0, 40).commits(api.OK)
	for take := -40; take < 80; take++ {
		b := w.begin()
		if take < 1 || take > 32 {
			b.stays(1, take, api.ErrArg)
		} else {
			b.joins(1, take, take)
		}
		b.abort()
	}
	for _, odd := range append(oddNums(), 1<<32+1, 1<<32+32) {
		b := w.begin().stays(1, odd, api.ErrArg)
		b.stays(65, odd, api.ErrArg).stays(9, odd, api.ErrArg)
		b.abort()
	}
	w.begin().raw(at(1, 7), nums(5, 3, most)).commits(api.OK)
	for _, now := range append(oddNums(), 0, 1, 19, 20, 1<<32, most-1, most) {
		b := w.begin()
		h, f := b.integrate(1, 5, 3, 1, now)
		switch {
		case now < 0 || now > most:
			b.is(f, api.ErrArg)
			_, f = b.integrate(9, 5, 3, 1, now)
			b.is(f, api.ErrArg)
		case now == most: // no lease lasts longer
			b.is(f, api.ErrLease)
		case f != api.OK || h.Tick != now:
			t.Fatal(now, h, f)
		}
		b.abort()
	}
}

// P20.2: the head is of who holds the lease, now: of no other one, no other epoch, and not when it has ended.
func TestIntegrateHeld(t *testing.T) {
	w := treeWorld(t, 1)
	w.begin().queued(1, 0, 4).commits(api.OK)
	for _, who := range []int{5, 0, 6, -5, 1005, 1<<32 + 5} {
		for _, epoch := range []int{3, 0, 2, 4, -3, 1<<32 + 3} {
			for _, now := range []int{0, 19, 20, most} {
				b := w.begin()
				h, f := b.integrate(1, who, epoch, 2, now)
				if ok := who == 5 && epoch == 3 && now < 20; ok != (f == api.OK) || !ok && f != api.ErrLease || ok && (h.Tick != now || h.Epoch != 3) {
					t.Fatal(who, epoch, now, h, f)
				}
				b.abort()
			}
		}
	}
	b := w.begin().raw(at(1, 7), nums(1000, most, 20))
	if h, f := b.integrate(1, 1000, most, 2, 0); f != api.OK || h.Epoch != most || h.Tick != 0 {
		t.Fatal(h, f)
	}
}

// P20.2: a tree that has no head gets one of no leaves, once.
func TestNoLeaf(t *testing.T) {
	b := treeWorld(t, 1).begin()
	if _, f := b.latest(1); f != api.ErrNothing {
		t.Fatal(f)
	}
	b.is(ranges(b), api.ErrNothing)
	h, f := b.integrate(1, 5, 3, 7, 12)
	want := withCode(1, rows.Head{Root: unhex(t, "e3b0c44298fc1c149afbf4c8996fb92427ae41e4649b934ca495991b7852b855"), Tick: 12, Epoch: 3})
	if f != api.OK || !sameHead(h, want) {
		t.Fatal(h, f)
	}
	if v, f := b.m.get(at(1, 1)); v != nums(0, 0) || f != api.OK { // the count is Put, too
		t.Fatal(v, f)
	}
	b.is(ranges(b), api.ErrRange).stays(1, 7, api.ErrNothing)
	if h, f := b.latest(1); f != api.OK || !sameHead(h, want) {
		t.Fatal(h, f)
	}
	b.waits(1, "x", 0).joins(1, 7, 1).stays(1, 7, api.ErrNothing)
	b.commits(api.OK)
}

// ranges is the one error that all three of the first leaf answer.
func ranges(b *both) api.Errno {
	b.Helper()
	_, f := b.inclusion(1, 0, 1)
	_, g := b.consistency(1, 1, 1)
	_, h := b.leaves(1, 0, 1)
	b.is(g, f).is(h, f)
	return f
}

// P20.2: of a tree without a head all that waits is taken in from the first number on.
func TestFirstHead(t *testing.T) {
	for count := range 40 {
		b := treeWorld(t, 1).begin().queued(1, 0, count)
		b.joins(1, 32, min(count, 32)).proves(1, min(count, 32))
		b.abort()
	}
}

// proves fails, unless a tree's head, rows, paths and proofs are those of that many leaves.
func (b *both) proves(id, size int) *both {
	b.Helper()
	all := leavesOf(size)
	if h, f := b.latest(id); f != api.OK || h.Size != size || h.Root != wantRoot(all) || h.Sig != withCode(id, h).Sig || !slices.Equal(h.Nodes, perfect(all)) {
		b.Fatal(size, h, f)
	}
	for n := 1; n <= size; n++ {
		for index := range n {
			p, f := b.inclusion(id, index, n)
			if want := rootsOf(all, pathParts(part{0, n}, index)); f != api.OK || !slices.Equal(p, want) {
				b.Fatalf("%d of %d: %q %d, not %q", index, n, p, f, want)
			}
			q, f := b.consistency(id, index+1, n)
			if want := rootsOf(all, proofParts(part{0, n}, index+1, true)); f != api.OK || !slices.Equal(q, want) {
				b.Fatalf("%d of %d: %q %d, not %q", index+1, n, q, f, want)
			}
		}
	}
	return b
}

// perfect are the roots of the greatest perfect trees of leaves, from the first one on.
func perfect(all []string) []string {
	var out []string
	for len(all) > 0 {
		n := 1 << (bits.Len(uint(len(all))) - 1)
		out = append(out, wantRoot(all[:n]))
		all = all[n:]
	}
	return out
}

// P20.2 to P20.4: as leaves are queued and taken in by turns, the root, paths and proofs are those of all that are in; and so checks who has package hash alone.
func TestGrows(t *testing.T) {
	t.Parallel()
	for _, take := range []int{1, 2, 3, 5, 8, 32} {
		w := treeWorld(t, 1)
		size, queued := 0, 0
		for size < 70 {
			b := w.begin().queued(1, queued, queued+take)
			queued += take
			b.joins(1, take, queued)
			size = queued
			b.commits(api.OK)
		}
		b := w.begin().proves(1, size)
		h, _ := b.latest(1)
		for n := 1; n <= size; n++ {
			p, _ := b.inclusion(1, n-1, size)
			q, _ := b.consistency(1, n, size)
			if hash.CheckPath(leafHash(leafOf(n-1)), n-1, size, p, h.Root) != api.OK || hash.CheckProof(n, size, q, wantRoot(leavesOf(n)), h.Root) != api.OK {
				t.Fatal(n)
			}
		}
		b.keeps(1, size)
	}
}

// keeps fails, unless tables 3 to 5 of a tree are those of that many leaves, all of which are in.
func (b *both) keeps(id, size int) {
	b.Helper()
	want := map[string]string{}
	all := leavesOf(size)
	for n := range size {
		want[at(id, 3, n)] = leafOf(n)
		want[placeAt(id, leafOf(n))] = placeBytes(Place{true, n})
	}
	for level := 0; 1<<level <= size; level++ {
		for index := 0; (index+1)<<level <= size; index++ {
			want[at(id, 5, level, index)] = wantRoot(all[index<<level : (index+1)<<level])
		}
	}
	got := map[string]string{}
	for _, x := range b.x.Scan([]byte(at(id, 2)), []byte(at(id, 6))) {
		got[string(x.Key)] = string(x.Value)
	}
	if !maps.Equal(got, want) {
		b.Fatal(size, len(got), len(want))
	}
}

// P20.2: leaves are taken by their numbers, whatever these are, the least ones first.
func TestTakenByNumber(t *testing.T) {
	b := treeWorld(t, 1, 2).begin().raw(at(1, 1), nums(0, 9))
	for i, n := range []int{most, 256, 0, 255, 1 << 32, 300, most - 1, 7, 65536} {
		b.raw(at(1, 2, n), leafOf(i))
	}
	b.joins(1, 4, 4).joins(1, 3, 7).joins(1, 32, 9)
	l, f := b.leaves(1, 0, 9)
	var want []string
	for _, i := range []int{2, 7, 3, 1, 5, 8, 4, 6, 0} {
		want = append(want, leafOf(i))
	}
	if f != api.OK || !slices.Equal(l, want) {
		t.Fatal(l, f)
	}
}

// P20.2: of table 2 only rows by n are leaves that wait.
func TestNoLeaves(t *testing.T) {
	b := treeWorld(t, 1).begin()
	for _, key := range []string{at(1, 2), at(1, 2) + "?", at(1, 2) + "\x00\x00\x01", at(1, 2, 0)[:16], at(1, 2, 0) + "\x00", at(1, 2, most+1), at(1, 2, 1<<62), at(1, 2, -1), at(1, 2, most) + "\x00", at(1, 2, 0, 0), at(1, 3, 0), at(1, 1, 0)} {
		b.raw(key, "no leaf")
	}
	b.joins(1, 32, 0).stays(1, 32, api.ErrNothing)
	b.waits(1, "x", 0).waits(1, "y", 1).joins(1, 32, 2).stays(1, 32, api.ErrNothing)
}

// P20.2: a leaf that waits is taken in as it stands there, also where Queue would not have it.
func TestLongLeaf(t *testing.T) {
	b := treeWorld(t, 1).begin().raw(at(1, 1), nums(9, 3))
	b.raw(at(1, 2, 3), strings.Repeat("l", 1024)).raw(at(1, 2, 5), "same").raw(at(1, 2, 7), "same")
	b.joins(1, 3, 3).had(1, "same", Place{true, 2})
	if l, f := b.leaves(1, 0, 3); f != api.OK || len(l[0]) != 1024 || l[1] != "same" || l[2] != "same" {
		t.Fatal(f)
	}
}

// P20.2: greater heads than any test makes leaf by leaf: what a leaf makes whole goes over their nodes.
func TestGreatHeads(t *testing.T) {
	w := treeWorld(t, 1)
	for _, size := range []int{255, 256, 1<<16 - 1, 1<<16 + 7, 1<<29 - 1, 1<<31 - 1<<4, 1<<31 - 1<<3 - 2, 1 << 32, 1<<32 + 1<<20 - 1, 0x5555555555, 0xaaaaaaaaaa, most - 1<<12, most / 2, most/2 + 1<<28 - 1, most/2 - 1<<20, most - 1<<39 + 31} {
		b := w.begin().raw(at(1, 1), nums(100, 40)).raw(at(1, 6), headBytes(madeHead(1, size)))
		for n := range 40 {
			b.raw(at(1, 2, n), leafOf(n))
		}
		if h, f := b.integrate(1, 5, 3, 3, 7); f == api.OK && h.Size != size+3 {
			t.Fatal(size, h, f)
		}
		b.integrate(1, 5, 3, 32, 8)
		b.abort()
	}
}

// P20.2: a head of 30 nodes and more is no value: Put's error, behind the leaves' rows, ahead of the count.
func TestHeadTooLong(t *testing.T) {
	b := treeWorld(t, 1).begin().raw(at(1, 1), nums(100, 2)).raw(at(1, 2, 8), "x").raw(at(1, 2, 9), "y")
	b.raw(at(1, 6), headBytes(madeHead(1, 1<<33-1<<4-16))).joins(1, 1, 1<<33-32+1)
	size := 1<<40 - 1<<11 // 29 ones
	b.raw(at(1, 6), headBytes(madeHead(1, size))).stays(1, 1, api.ErrArg)
	if v, _ := b.m.get(at(1, 3, size)); v != "y" {
		t.Fatalf("%q", v)
	}
	if v, _ := b.m.get(at(1, 1)); v != nums(100, 1) {
		t.Fatalf("%q", v)
	}
	if h, f := b.latest(1); f != api.OK || h.Size != size {
		t.Fatal(h, f)
	}
}

// P20.2: as many leaves as there are nodes for: the last one's index is MaxNum - 1.
func TestTooManyLeaves(t *testing.T) {
	b := treeWorld(t, 1).begin().raw(at(1, 1), nums(100, 9)).raw(at(1, 6), headBytes(madeHead(1, most)))
	b.raw(at(1, 2, 8), "x").raw(at(1, 2, 9), "y").stays(1, 2, api.ErrArg)
	gone := func(key string) {
		t.Helper()
		if v, f := b.m.get(key); f != api.ErrNone {
			t.Fatalf("%q %d", v, f)
		}
	}
	gone(at(1, 2, 8))
	gone(at(1, 5, 0, most))
	gone(at(1, 3, most+1))
	b.had(1, "x", Place{true, most}).waits(1, "y", 100)
	if h, f := b.latest(1); f != api.OK || h.Size != most {
		t.Fatal(h, f)
	}
	if v, _ := b.m.get(at(1, 3, most)); v != "x" {
		t.Fatal(v)
	}
}

// P20.2: the count may be less than what is taken: PutCount's error, behind the head.
func TestCountTooLittle(t *testing.T) {
	b := treeWorld(t, 1).begin().queued(1, 0, 5).raw(at(1, 1), nums(5, 3))
	b.joins(1, 2, 2).stays(1, 2, api.ErrArg)
	if h, f := b.latest(1); f != api.OK || h.Size != 4 {
		t.Fatal(h, f)
	}
	b.joins(1, 1, 5)
}

// P20.1, P20.2: how many keys each call writes and guards: where there are no more, what was Put ahead stays.
func TestFull(t *testing.T) {
	w := treeWorld(t, 1)
	w.begin().queued(1, 0, 11).joins(1, 7, 7).commits(api.OK)
	for free := range 6 {
		b := w.begin().fill(256-free, 0)
		if _, _, f := b.queue(1, "x"); (f == api.OK) != (free >= 3) || f != api.OK && f != api.ErrArg {
			t.Fatal(free, f)
		}
		b.abort()
	}
	// Leaf 7 has four nodes, 8 one, 9 two, 10 one: with three rows a leaf, the head and the count.
	for free := range 25 {
		for take := 1; take <= 4; take++ {
			b := w.begin().fill(256-free, 0)
			if _, f := b.integrate(1, 5, 3, take, 0); (f == api.OK) != (free >= []int{0, 9, 13, 18, 22}[take]) || f != api.OK && f != api.ErrArg {
				t.Fatal(free, take, f)
			}
			b.abort()
		}
	}
	for free := range 4 {
		b := w.begin().fill(0, 256-free)
		_, f := b.integrate(1, 5, 3, 1, 0)
		b.abort()
		b = w.begin().fill(0, 256-free)
		_, _, g := b.queue(1, "x")
		b.abort()
		if (f == api.OK) != (free >= 2) || (g == api.OK) != (free >= 1) {
			t.Fatal(free, f, g)
		}
	}
}

// P20.2: 32 leaves at once are rows of one transaction, from any size on.
func TestMostAtOnce(t *testing.T) {
	w := treeWorld(t, 1)
	for _, size := range []int{0, 1, 31, 32, 63, 1<<20 - 1, 1<<29 - 1, most/2 - 1<<30, most / 2, most - 1<<20} {
		c := w.begin().raw(at(1, 6), headBytes(madeHead(1, size))).raw(at(1, 1), nums(64, 64))
		for n := range 64 {
			c.raw(at(1, 2, n), leafOf(n))
		}
		c.commits(api.OK)
		b := w.begin()
		b.joins(1, 32, size+32)
		b.commits(api.OK)
		b = w.begin()
		b.joins(1, 31, size+63)
		b.commits(api.OK)
	}
}

// places are rows that another one may write meanwhile, by what they are.
func places() map[string]string {
	return map[string]string{
		"tree": at(1, 0), "count": at(1, 1), "head": at(1, 6), "lease": at(1, 7), "waits 0": at(1, 2, 0), "waits 1": at(1, 2, 1), "waits 2": at(1, 2, 2),
		"leaf 0": at(1, 3, 0), "leaf 1": at(1, 3, 1), "place of a": placeAt(1, "a"), "place of b": placeAt(1, "b"), "place of c": placeAt(1, "c"),
		"node 0 0": at(1, 5, 0, 0), "node 0 1": at(1, 5, 0, 1), "node 1 0": at(1, 5, 1, 0),
		"no tree": at(0, 0), "other tree": at(2, 0), "other count": at(2, 1), "other wait": at(2, 2, 0), "other lease": at(2, 7), "no row": at(1, 2), "no table": at(1, 8),
	}
}

// clashes are the places of which a transaction that does so, and writes a row of its own, is in conflict.
func clashes(t *testing.T, do func(b *both)) string {
	t.Helper()
	var out []string
	for what, key := range places() {
		w := treeWorld(t, 1, 2)
		w.begin().waits(1, "a", 0).waits(1, "b", 1).commits(api.OK)
		b := w.begin()
		do(b)
		if len(b.m.wrote) < 256 {
			b.raw("own", "")
		}
		other := w.begin()
		value, _ := other.m.get(key) // a row that is written again is one that was written
		other.raw(key, value)
		other.commits(api.OK)
		if b.commit() == api.ErrConflict {
			out = append(out, what)
		}
	}
	slices.Sort(out)
	return strings.Join(out, ", ")
}

// P20.1 to P20.3: what is guarded and written, by what is answered.
func TestGuarded(t *testing.T) {
	one := "count, head, leaf 0, lease, node 0 0, place of a, tree, waits 0"
	for what, x := range map[string]struct {
		want string
		do   func(b *both)
	}{
		"nothing":           {"", func(b *both) {}},
		"Queue":             {"count, place of c, tree, waits 2", func(b *both) { b.waits(1, "c", 2) }},
		"Queue again":       {"", func(b *both) { b.had(1, "a", Place{false, 0}) }},
		"Queue of Deleted":  {"tree", func(b *both) { b.raw(at(1, 0), treeBytes(1, 3, 9)).refused(1, "c", api.ErrNoTree) }},
		"Queue of Frozen":   {"tree", func(b *both) { b.raw(at(1, 0), treeBytes(1, 2, 9)).refused(1, "c", api.ErrFrozen) }},
		"Queue, no quota":   {"tree", func(b *both) { b.raw(at(1, 0), treeBytes(1, 1, 2)).refused(1, "c", api.ErrQuota) }},
		"Queue, no count":   {"count", func(b *both) { b.raw(at(1, 1), "?").refused(1, "c", api.ErrCorrupt) }},
		"Queue, no guard":   {"", func(b *both) { b.fill(0, 256).refused(1, "c", api.ErrArg) }},
		"Queue, no put":     {"tree", func(b *both) { b.fill(256, 0).refused(1, "c", api.ErrArg) }},
		"Queue, one put":    {"tree, waits 2", func(b *both) { b.fill(255, 0).refused(1, "c", api.ErrArg) }},
		"Queue, two puts":   {"place of c, tree, waits 2", func(b *both) { b.fill(254, 0).refused(1, "c", api.ErrArg) }},
		"Integrate":         {one, func(b *both) { b.joins(1, 1, 1) }},
		"Integrate of two":  {"count, head, leaf 0, leaf 1, lease, node 0 0, node 0 1, node 1 0, place of a, place of b, tree, waits 0, waits 1", func(b *both) { b.joins(1, 2, 2) }},
		"Integrate of none": {"count, head, lease, tree", func(b *both) { b.x.Delete([]byte(at(1, 2, 0))); *b = *bare(b) }},
		"Integrate, nothing": {"head, lease, waits 0, waits 1", func(b *both) {
			b.rawGone(at(1, 2, 0)).rawGone(at(1, 2, 1)).raw(at(1, 6), headBytes(madeHead(1, 0))).stays(1, 1, api.ErrNothing)
		}},
		"Integrate by another":  {"lease", func(b *both) { b.raw(at(1, 7), nums(6, 3, 20)).stays(1, 1, api.ErrLease) }},
		"Integrate, ended":      {"", func(b *both) { b.integrate(1, 5, 3, 1, 20) }},
		"Integrate, no head":    {"head, lease", func(b *both) { b.raw(at(1, 6), "?").stays(1, 1, api.ErrCorrupt) }},
		"Integrate, no count":   {"count, lease", func(b *both) { b.raw(at(1, 1), "?").stays(1, 1, api.ErrCorrupt) }},
		"Integrate of no tree":  {"", func(b *both) { b.stays(3, 1, api.ErrNoTree) }},
		"Integrate, no number":  {"", func(b *both) { b.stays(1, 0, api.ErrArg) }},
		"Integrate, no guard":   {"", func(b *both) { b.fill(0, 256).stays(1, 1, api.ErrArg) }},
		"Integrate, one guard":  {"lease", func(b *both) { b.fill(0, 255).stays(1, 1, api.ErrArg) }},
		"Integrate, no put":     {"lease, tree", func(b *both) { b.fill(256, 0).stays(1, 1, api.ErrArg) }},
		"Integrate, one put":    {"lease, tree, waits 0", func(b *both) { b.fill(255, 0).stays(1, 1, api.ErrArg) }},
		"Integrate, two puts":   {"leaf 0, lease, tree, waits 0", func(b *both) { b.fill(254, 0).stays(1, 1, api.ErrArg) }},
		"Integrate, three puts": {"leaf 0, lease, place of a, tree, waits 0", func(b *both) { b.fill(253, 0).stays(1, 1, api.ErrArg) }},
		"Integrate, four puts":  {"leaf 0, lease, node 0 0, place of a, tree, waits 0", func(b *both) { b.fill(252, 0).stays(1, 1, api.ErrArg) }},
		"Integrate, five puts":  {"head, leaf 0, lease, node 0 0, place of a, tree, waits 0", func(b *both) { b.fill(251, 0).stays(1, 1, api.ErrArg) }},
		"asking": {"", func(b *both) {
			b.latest(1)
			b.is(ranges(b), api.ErrNothing).waiting(1)
		}},
		"asking of a head": {one, func(b *both) {
			b.joins(1, 1, 1).latest(1)
			b.is(ranges(b), api.OK).waiting(1)
		}},
	} {
		if got := clashes(t, x.do); got != x.want {
			t.Errorf("%s: in conflict by %q, not %q", what, got, x.want)
		}
	}
}

// bare is another transaction behind one in which nothing waits any more, and that makes the first head.
func bare(b *both) *both {
	b.Helper()
	b.x.Abort()
	b.world.begin().rawGone(at(1, 2, 0)).rawGone(at(1, 2, 1)).commits(api.OK)
	return b.world.begin().joins(1, 9, 0)
}

// P20.3: asking writes nothing, and guards nothing: it is never in conflict.
func TestAskingWritesNothing(t *testing.T) {
	w := treeWorld(t, 1)
	w.begin().queued(1, 0, 9).joins(1, 5, 5).commits(api.OK)
	b := w.begin().had(1, leafOf(0), Place{true, 0}).had(1, leafOf(7), Place{false, 7})
	b.proves(1, 5).leaves(1, 0, 5)
	other := w.begin().joins(1, 4, 9)
	other.commits(api.OK)
	b.proves(1, 5).had(1, leafOf(7), Place{false, 7}).waiting(1) // as it was when it began
	n := w.s.seq
	b.commits(api.OK)
	if w.s.seq != n || w.e.Seq() != n {
		t.Fatal(n)
	}
}

// P20.4, DOC's example 4: of two leaves that are queued at once the second one to commit is in conflict, asks again, and has the next number.
func TestQueuedAtOnce(t *testing.T) {
	w := treeWorld(t, 1, 2)
	x, y, other := w.begin().waits(1, "a", 0), w.begin().waits(1, "b", 0), w.begin().waits(2, "b", 0)
	y.commits(api.OK)
	x.commits(api.ErrConflict)
	other.commits(api.OK)
	w.begin().waits(1, "a", 1).commits(api.OK)
	x, y = w.begin().waits(1, "c", 2), w.begin().waits(1, "c", 2) // of one leaf, too
	x.commits(api.OK)
	y.commits(api.ErrConflict)
	w.begin().had(1, "c", Place{false, 2}).commits(api.OK)
}

// P20.1, P20.2: what is done to a tree that is frozen, deleted, or taken from meanwhile, is in conflict.
func TestTurnedMeanwhile(t *testing.T) {
	for what, turn := range map[string]func(b *both){
		"frozen":      func(b *both) { b.raw(at(1, 0), treeBytes(1, 2, 1000)) },
		"deleted":     func(b *both) { b.raw(at(1, 0), treeBytes(1, 3, 1000)) },
		"quota":       func(b *both) { b.raw(at(1, 0), treeBytes(1, 1, 1)) },
		"queued":      func(b *both) { b.waits(1, "other", 4) },
		"taken in":    func(b *both) { b.joins(1, 1, 1) },
		"taken in, 4": func(b *both) { b.joins(1, 4, 4) },
	} {
		for do, does := range map[string]func(b *both){
			"Queue":     func(b *both) { b.waits(1, "own", 4) },
			"Integrate": func(b *both) { b.joins(1, 2, 2) },
			"both":      func(b *both) { b.joins(1, 4, 4).waits(1, "own", 4).joins(1, 1, 5) },
		} {
			w := treeWorld(t, 1, 2)
			w.begin().queued(1, 0, 4).commits(api.OK)
			b, other := w.begin(), w.begin()
			does(b)
			turn(other)
			other.commits(api.OK)
			if f := b.commit(); f != api.ErrConflict {
				t.Fatal(what, do, f)
			}
		}
	}
}

// W5, DOC's example 5: a sequencer whose lease has ended writes late: in conflict, or ErrLease; the other one's epoch is greater, and so is its head's.
func TestLate(t *testing.T) {
	w := treeWorld(t, 1)
	w.begin().queued(1, 0, 9).joins(1, 2, 2).commits(api.OK)
	late := w.begin().joins(1, 2, 4)
	next := w.begin().raw(at(1, 7), nums(6, 4, 30))
	next.commits(api.OK)
	late.commits(api.ErrConflict)
	late = w.begin().stays(1, 2, api.ErrLease)
	late.abort()
	next = w.begin()
	if h, f := next.integrate(1, 6, 4, 32, 20); f != api.OK || h.Size != 9 || h.Epoch != 4 {
		t.Fatal(h, f)
	}
	next.commits(api.OK)
	w.begin().stays(1, 2, api.ErrLease).proves(1, 9)
}

// W3: trees have leaves, heads and proofs of their own.
func TestApart(t *testing.T) {
	var ids []int
	for id := range 64 {
		ids = append(ids, id+1)
	}
	w := treeWorld(t, ids...)
	for _, id := range ids {
		w.begin().queued(id, 0, id%7+2).commits(api.OK)
	}
	for _, id := range ids {
		w.begin().joins(id, id%5+1, min(id%5+1, id%7+2)).commits(api.OK)
	}
	b := w.begin()
	for _, id := range ids {
		b.proves(id, min(id%5+1, id%7+2))
	}
}

// Nothing is kept by the package: two engines at once have trees of their own.
func TestEngines(t *testing.T) {
	a, b := treeWorld(t, 1).begin(), treeWorld(t, 1).begin()
	a.queued(1, 0, 3).joins(1, 2, 2)
	b.waits(1, leafOf(2), 0).stays(1, 33, api.ErrArg).joins(1, 1, 1)
	a.had(1, leafOf(2), Place{false, 2}).proves(1, 2)
	a.commits(api.OK)
	b.commits(api.OK)
}

// P20.3: which leaves may be asked for.
func TestLeaves(t *testing.T) {
	w := treeWorld(t, 1)
	for from := 0; from < 80; from += 20 {
		w.begin().queued(1, from, from+20).joins(1, 20, from+20).commits(api.OK)
	}
	b := w.begin()
	for from := -3; from < 85; from++ {
		for to := from - 2; to < from+36; to++ {
			l, f := b.leaves(1, from, to)
			if ok := from >= 0 && to > from && to <= 80 && to-from <= 32; ok != (f == api.OK) || !ok && f != api.ErrRange {
				t.Fatal(from, to, f)
			}
			for i, leaf := range l {
				if leaf != leafOf(from+i) {
					t.Fatal(from, to, i, leaf)
				}
			}
		}
	}
	for _, x := range append(oddNums(), 0, 1, 32, 80, 1<<32, 1<<32+1) {
		for _, y := range append(oddNums(), 0, 1, 32, 80, 1<<32, 1<<32+1) {
			b.leaves(1, x, y)
		}
	}
	b.rawGone(at(1, 3, 7))
	for from := range 10 {
		_, f := b.leaves(1, from, from+3)
		if from >= 5 && from <= 7 {
			b.is(f, api.ErrCorrupt)
		} else {
			b.is(f, api.OK)
		}
	}
	b.raw(at(1, 3, 7), "").leaves(1, 5, 9)
}

// P20.3: which paths and proofs may be asked for.
func TestProofRanges(t *testing.T) {
	b := treeWorld(t, 1).begin().queued(1, 0, 9).joins(1, 9, 9)
	for x := -3; x < 14; x++ {
		for y := -3; y < 14; y++ {
			_, f := b.inclusion(1, x, y)
			_, g := b.consistency(1, x, y)
			if ok := x >= 0 && x < y && y <= 9; ok != (f == api.OK) || !ok && f != api.ErrRange {
				t.Fatal(x, y, f)
			}
			if ok := x >= 1 && x <= y && y <= 9; ok != (g == api.OK) || !ok && g != api.ErrRange {
				t.Fatal(x, y, g)
			}
		}
	}
	for _, x := range append(oddNums(), 0, 1, 9, 10, 1<<32, 1<<32+1, 1<<32+9) {
		for _, y := range append(oddNums(), 0, 1, 9, 10, 1<<32, 1<<32+1, 1<<32+9) {
			b.inclusion(1, x, y)
			b.consistency(1, x, y)
		}
	}
}

// P20.3: nodes that are not there, or have not 32 bytes; where they are not asked for they turn nothing. What they are is not asked.
func TestNodes(t *testing.T) {
	w := treeWorld(t, 1)
	w.begin().queued(1, 0, 13).joins(1, 13, 13).commits(api.OK)
	for level := range 4 {
		for index := range 13 >> level {
			for _, row := range []string{"", "?", strings.Repeat("n", 31), strings.Repeat("n", 33), strings.Repeat("n", 64), strings.Repeat("n", 32), "gone"} {
				b := w.begin()
				if row == "gone" {
					b.rawGone(at(1, 5, level, index))
				} else {
					b.raw(at(1, 5, level, index), row)
				}
				for n := 1; n <= 13; n++ {
					for i := range n {
						b.inclusion(1, i, n)
						b.consistency(1, i+1, n)
					}
				}
				b.latest(1)
				b.abort()
			}
		}
	}
}

// P20.3: rows that are no head; a head without its rows.
func TestHeads(t *testing.T) {
	b := treeWorld(t, 1).begin()
	head := headBytes(madeHead(1, 5))
	for _, row := range []string{"", "?", head[:len(head)-1], head + "\x00", head + strings.Repeat("n", 32), strings.Repeat("\x00", 67)[:66]} {
		b.raw(at(1, 6), row)
		_, f := b.latest(1)
		b.is(f, api.ErrCorrupt).is(ranges(b), api.ErrCorrupt).stays(1, 1, api.ErrCorrupt)
		b.rawGone(placeAt(1, "x")).queue(1, "x") // Queue asks for no head
	}
	for _, size := range []int{1, 5, 300, 1 << 32, most - 1<<12, most} {
		b.raw(at(1, 6), headBytes(madeHead(1, size)))
		if h, f := b.latest(1); f != api.OK || h.Size != size {
			t.Fatal(size, h, f)
		}
		for _, n := range []int{1, 2, size - 1, size, size + 1} {
			b.inclusion(1, 0, n)
			b.inclusion(1, n-1, n)
			b.consistency(1, n, n)
			b.consistency(1, 1, n)
			b.leaves(1, n-1, n)
		}
		_, f := b.consistency(1, size, size)
		b.is(f, api.OK)
	}
}

// P20.3: Waiting is what the count says.
func TestWaiting(t *testing.T) {
	b := treeWorld(t, 1, 2).begin()
	says := func(id, want int) {
		t.Helper()
		if n, f := b.waiting(id); n != want || f != api.OK {
			t.Fatal(n, f, want)
		}
	}
	says(1, 0)
	b.queued(1, 0, 40)
	says(1, 40)
	b.joins(1, 7, 7)
	says(1, 33)
	says(2, 0)
	for _, pending := range []int{0, 1, 1001, 1 << 32, most} {
		b.raw(at(1, 1), nums(40, pending))
		says(1, pending)
	}
	for _, row := range []string{"", "?", nums(1, 2, 3), nums(1, most+1), nums(most+1, 1), "\x80\x00\x01"} {
		b.raw(at(1, 1), row)
		_, f := b.waiting(1)
		b.is(f, api.ErrCorrupt)
	}
	b.raw(at(1, 0), treeBytes(1, 2, 0)).raw(at(1, 1), nums(9, 8)) // of a Frozen one, too
	says(1, 8)
}

// R3: what is handed in is neither changed nor kept, what is answered is new memory.
func TestMemory(t *testing.T) {
	w := treeWorld(t, 1)
	b := w.begin()
	spare := []byte("leafspare")
	leaf := spare[:4]
	if _, _, f := Queue(b.x, 1, leaf); f != api.OK || string(spare) != "leafspare" {
		t.Fatal(f, string(spare))
	}
	b.m.queue(1, "leaf")
	copy(spare, "????")
	b.had(1, "leaf", Place{false, 0}).queued(1, 1, 12).joins(1, 12, 12)
	spoil(t, b)
	b.had(1, "leaf", Place{true, 0}).commits(api.OK)
	b = w.begin()
	spoil(t, b)
	w.e.Flush()
	spoil(t, b)
	b.same("spoiling", "")
}

// spoil turns all that is answered, and looks whether another answer is turned by that.
func spoil(t *testing.T, b *both) {
	t.Helper()
	turn := func() {
		h, _ := Latest(b.x, 1)
		p, _ := Inclusion(b.x, 1, 4, 11)
		q, _ := Consistency(b.x, 1, 5, 12)
		l, _ := Leaves(b.x, 1, 0, 12)
		for _, s := range [][]string{h.Nodes, p, q} {
			for i := range s {
				s[i] = "turned"
			}
			_ = append(s, "turned")
		}
		for _, leaf := range l {
			for i := range leaf {
				leaf[i] = '?'
			}
			_ = append(leaf, '?')
		}
	}
	turn()
	h, _ := b.latest(1)
	p, _ := b.inclusion(1, 4, 11)
	q, _ := b.consistency(1, 5, 12)
	l, f := b.leaves(1, 0, 12)
	if f != api.OK || len(l) != 12 || l[0] != "leaf" || len(h.Nodes) != 2 || len(p) == 0 || len(q) == 0 {
		t.Fatal(l, f)
	}
	a, _ := Leaves(b.x, 1, 0, 12)
	for i := range a {
		_ = append(a[i], "????????"...) // no leaf's room is another one's
	}
	for i := range a {
		if !bytes.Equal(a[i], []byte(l[i])) {
			t.Fatal(i)
		}
	}
}

// R3: the head that Integrate answers is not kept either.
func TestHeadMemory(t *testing.T) {
	b := treeWorld(t, 1).begin().queued(1, 0, 7)
	b.m.integrate(1, 5, 3, 7, 19)
	h, _ := Integrate(b.x, 1, 5, 3, 7, 19)
	for i := range h.Nodes {
		h.Nodes[i] = "turned"
	}
	b.proves(1, 7)
}

// W2, P20.4: what is committed stays, behind flushes, compactions and crashes.
func TestLater(t *testing.T) {
	w := treeWorld(t, 1)
	for turn := range 60 {
		b := w.begin().queued(1, turn, turn+1)
		if turn%3 == 2 {
			b.joins(1, 2, turn/3*2+2)
		}
		b.commits(api.OK)
		switch {
		case turn%7 == 0:
			w.e.Flush()
		case turn%11 == 0:
			w.e.Compact()
		case turn%5 == 0:
			w.crash()
		}
	}
	b := w.begin()
	b.proves(1, 40)
	for n := range 60 {
		b.had(1, leafOf(n), Place{n < 40, n})
	}
}

// A record is what has become of a tree so far, kept beside all models.
type record struct {
	leaves []string // in the order in which their queueing was committed
	size   int
}

// look fails, unless each leaf that was queued waits, or is in, just once, and the head, paths and proofs are those of the leaves that are in; heads only grow.
func (r *record) look(w *world, proofs bool) {
	w.Helper()
	b := w.begin()
	defer b.abort()
	var l, in []string
	for _, x := range b.x.Scan([]byte(at(1, 3)), []byte(at(1, 4))) {
		l, in = append(l, string(x.Value)), append(in, leafHash(string(x.Value)))
	}
	for _, x := range b.x.Scan([]byte(at(1, 2)), []byte(at(1, 3))) {
		l = append(l, string(x.Value))
	}
	if !slices.Equal(l, r.leaves) {
		w.Fatal(l, "not", r.leaves)
	}
	h, f := b.latest(1)
	if f == api.ErrNothing && r.size == 0 {
		return
	}
	if f != api.OK || h.Size != len(in) || h.Size < r.size || h.Root != wantRoot(in) {
		w.Fatal(h, f, in, r.size)
	}
	r.size = h.Size
	for index := 0; proofs && index < h.Size; index++ {
		p, f := b.inclusion(1, index, h.Size)
		q, g := b.consistency(1, index+1, h.Size)
		if f != api.OK || g != api.OK || !slices.Equal(p, rootsOf(in, pathParts(part{0, h.Size}, index))) || !slices.Equal(q, rootsOf(in, proofParts(part{0, h.Size}, index+1, true))) {
			w.Fatal(index, p, f, q, g)
		}
	}
}

// P20.4: many queue and take in at once, some of them late: nothing is lost, and nothing is in twice.
func TestOnce(t *testing.T) {
	t.Parallel()
	r := rand.New(rand.NewPCG(20, 1))
	taken := 0
	for range 20 {
		w := treeWorld(t, 1)
		rec := &record{}
		type job struct {
			*both
			leaves []string
		}
		var open []job
		for turn := range 150 {
			if len(open) < 3 {
				j := job{both: w.begin()}
				for range r.IntN(3) {
					leaf := leafOf(r.IntN(120))
					if _, tells, f := j.queue(1, leaf); f == api.OK && !tells {
						j.leaves = append(j.leaves, leaf)
					}
				}
				if r.IntN(3) == 0 {
					j.integrate(1, 5, 3, r.IntN(6)+1, r.IntN(20))
				}
				open = append(open, j)
				continue
			}
			at := r.IntN(len(open))
			if j := open[at]; j.commit() == api.OK {
				rec.leaves = append(rec.leaves, j.leaves...)
			}
			open = slices.Delete(open, at, at+1)
			rec.look(w, turn%10 == 0)
		}
		taken += rec.size
	}
	if taken < 300 {
		t.Fatal("few leaves were taken in:", taken)
	}
}

// W5: one sequencer takes all in that waits, with as many calls as that needs.
func TestAllIn(t *testing.T) {
	w := treeWorld(t, 1)
	for n := 0; n < 1000; n += 50 {
		b := w.begin()
		for i := n; i < n+50; i++ {
			if p, tells, f := Queue(b.x, 1, []byte(leafOf(i))); p != (Place{false, i}) || tells || f != api.OK {
				t.Fatal(i, p, tells, f)
			}
			b.m.queue(1, leafOf(i))
		}
		b.commits(api.OK)
	}
	w.begin().refused(1, "more", api.ErrQuota).abort()
	for n := 32; n < 1032; n += 32 {
		b := w.begin().joins(1, 32, min(n, 1000))
		b.commits(api.OK)
	}
	b := w.begin().stays(1, 32, api.ErrNothing)
	if h, _ := b.latest(1); h.Root != wantRoot(leavesOf(1000)) {
		t.Fatal(h)
	}
	b.keeps(1, 1000)
}

// Rows are written by one variadic function: one by one, and the first error ends it.
func TestPut(t *testing.T) {
	b := treeWorld(t, 1).begin()
	b.is(put(b.x), api.OK).is(put(nil), api.OK).is(put(nil, row{key: []byte("k")}), api.ErrArg)
	f := put(b.x, row{key: []byte("a"), value: []byte("1")}, row{key: []byte("b"), gone: true}, row{key: []byte("a"), value: []byte("2")}, row{}, row{key: []byte("c")})
	b.is(f, api.ErrArg)
	b.m.put("a", "2")
	b.m.delete("b")
	b.same("put", "")
}

// A stage holds a world of some trees, transactions that go on in it at once, and a clock, and does as bytes say.
type stage struct {
	*world
	seed []byte
	open []*both
	now  int
}

func (s *stage) next() int {
	if len(s.seed) == 0 {
		return 0
	}
	x := s.seed[0]
	s.seed = s.seed[1:]
	return int(x)
}

func (s *stage) id() int {
	x := s.next()
	if odd := oddIds(); x > 245 {
		return odd[x%len(odd)]
	}
	return x%3 + 1 // few trees, so that they meet
}

// leaf is one of some; few of them have too many bytes.
func (s *stage) leaf() string {
	x := s.next()
	if x > 250 {
		return strings.Repeat("l", 508+x-250)
	}
	return leafOf(x % 60)
}

// size is around a tree's, or none.
func (s *stage) size(b *both, id int) int {
	x := s.next()
	if odd := oddNums(); x > 240 {
		return odd[x%len(odd)]
	}
	h, _, _ := b.m.head(id)
	return h.Size*(x%16)/13 + x%3 - 1
}

// asks asks of a transaction one thing.
func (s *stage) asks(b *both) {
	s.Helper()
	id := s.id()
	switch x := s.next() % 32; x {
	case 10, 11, 12, 13, 14, 15:
		l, _ := b.m.counted(id, 7, 3)
		if len(l) == 0 {
			l = []int{5, 3, 20}
		}
		b.integrate(id, l[0], l[1], s.next()%34, s.now)
	case 16:
		b.integrate(id, s.next()%4, s.next()%4, s.next()%34, s.now)
	case 17, 18:
		b.latest(id)
		b.waiting(id)
	case 19, 20, 21:
		b.inclusion(id, s.size(b, id), s.size(b, id))
	case 22, 23, 24:
		b.consistency(id, s.size(b, id), s.size(b, id))
	case 25, 26:
		b.leaves(id, s.size(b, id), s.size(b, id))
	case 27, 28, 29, 30, 31:
		s.spoils(b, x, id&3)
	default:
		b.queue(id, s.leaf())
	}
}

// spoils puts a row of a tree as no call would, or turns the tree.
func (s *stage) spoils(b *both, how, id int) {
	s.Helper()
	n := s.next()
	switch {
	case how == 27:
		b.put(at(id, 0), treeBytes(id, max(1, n%4), n*4%1001))
	case how == 28:
		b.put(at(id, 7), nums(n%4, n%3, s.now+n%9))
	case n < 8:
		b.put(at(id, 1), nums(n*9, n*3))
	case n < 16:
		b.put(at(id, 6), headBytes(madeHead(id, 1<<(n*2)-n)))
	case n < 32:
		b.delete(at(id, 5, n%3, n%5))
	case n < 40:
		b.put(at(id, 5, n%3, n%5), strings.Repeat("n", n))
	case n < 48:
		b.delete(at(id, 3, n%9))
	case n < 56:
		b.put(placeAt(id, leafOf(n)), nums(n%3, n))
	case n < 64:
		b.put(at(id, 2, n<<(n%34)), leafOf(n))
	case n < 68:
		b.delete(at(id, n%8))
	default:
		b.put(at(id, 0), treeBytes(id, 1, 1000))
	}
}

// step begins, asks, commits, aborts, or turns the engine.
func (s *stage) step() {
	s.Helper()
	x := s.next()
	if len(s.open) == 0 || x < 20 && len(s.open) < 4 {
		s.open = append(s.open, s.begin())
		return
	}
	at := s.next() % len(s.open)
	b := s.open[at]
	switch {
	case x < 215:
		s.asks(b)
	case x < 240:
		b.commit()
		s.open = slices.Delete(s.open, at, at+1)
	case x < 243:
		b.abort()
		s.open = slices.Delete(s.open, at, at+1)
	case x < 246:
		s.now += s.next() % 4
	case x < 250:
		s.e.Flush()
		s.e.Compact()
	case x < 252:
		s.crash()
		s.open = nil
	case x < 254 && len(b.m.wrote) < 100:
		b.fill(256-len(b.m.wrote)-s.next()%20, 0)
	case len(b.m.guards) < 100:
		b.fill(0, 256-len(b.m.guards)-s.next()%3)
	}
}

func walk(t *testing.T, seed []byte) {
	t.Helper()
	s := &stage{world: treeWorld(t, 1, 2, 3), seed: seed}
	for len(s.seed) > 0 {
		s.step()
	}
	for _, b := range s.open {
		b.commit()
	}
	last := s.begin()
	if !maps.Equal(last.m.rows, s.s.rows) {
		t.Fatal("not what was committed")
	}
}

func TestWalk(t *testing.T) {
	t.Parallel()
	r := rand.New(rand.NewPCG(20, 2))
	for range 120 {
		seed := make([]byte, 1000)
		for i := range seed {
			seed[i] = byte(r.Uint32())
		}
		walk(t, seed)
		if t.Failed() {
			t.Fatalf("% x", seed)
		}
	}
}

func FuzzJoin(f *testing.F) {
	f.Add([]byte(nil))
	for n := range 32 {
		f.Add([]byte{0, 30, 0, 0, 0, 1, 30, 0, 0, 0, 2, 30, 0, 0, 10, 2, 30, 0, 0, byte(n), 2, 2, 216, 0})
	}
	f.Fuzz(func(t *testing.T, b []byte) { walk(t, b[:min(len(b), 800)]) })
}
