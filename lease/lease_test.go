package lease

import (
	"cmp"
	"encoding/hex"
	"errors"
	"fmt"
	"maps"
	"math"
	"math/rand/v2"
	"slices"
	"strings"
	"testing"

	"sawyer/api"
	"sawyer/rows"
	"sawyer/txn"
)

// The chapter's example.
func TestExample(t *testing.T) {
	w := newWorld(t)
	b := w.begin().raw(at(1, 0), treeBytes(1, 1))
	b.took(1, 5, 0, 1).refused(1, 6, 9, api.ErrLease).took(1, 6, 10, 2)
	b.commits(api.OK)
}

// P19.1 to P19.3: what is told of one tree as the clock goes on, reckoned by hand.
func TestTurnByTurn(t *testing.T) {
	w := newWorld(t)
	b := w.begin().raw(at(1, 0), treeBytes(1, 1))
	b.is(b.hold(1, 5, 0, 0), api.ErrLease).is(b.drop(1, 5, 0, 0), api.ErrLease)
	b.took(1, 5, 0, 1).took(1, 5, 0, 1).took(1, 5, 7, 1) // who has it goes on with it
	for now := range 17 {
		b.is(b.hold(1, 5, 1, now), api.OK).refused(1, 6, now, api.ErrLease)
		b.is(b.hold(1, 6, 1, now), api.ErrLease).is(b.hold(1, 5, 2, now), api.ErrLease).is(b.hold(1, 5, 0, now), api.ErrLease)
	}
	b.is(b.hold(1, 5, 1, 17), api.ErrLease).is(b.drop(1, 5, 1, 17), api.ErrLease)
	b.took(1, 5, 17, 2) // its own, too, is another one, once it has ended
	b.is(b.hold(1, 5, 1, 17), api.ErrLease).is(b.hold(1, 5, 2, 17), api.OK)
	b.is(b.drop(1, 5, 2, 20), api.OK).is(b.hold(1, 5, 2, 20), api.ErrLease).is(b.drop(1, 5, 2, 20), api.ErrLease)
	b.took(1, 6, 20, 3).took(1, 6, 25, 3).refused(1, 5, 34, api.ErrLease).took(1, 5, 35, 4)
	b.is(b.hold(1, 6, 3, 36), api.ErrLease).is(b.drop(1, 6, 3, 36), api.ErrLease)
	b.is(b.drop(1, 5, 4, 36), api.OK).took(1, 5, 36, 5)
	b.commits(api.OK)
	b = w.begin()
	b.is(b.hold(1, 5, 5, 45), api.OK).is(b.hold(1, 5, 5, 46), api.ErrLease)
}

// P19.1: who goes on at an earlier tick has it until a term from there.
func TestTakeEarlier(t *testing.T) {
	b := treeWorld(t, 1).begin()
	b.took(1, 5, 3, 3).is(b.hold(1, 5, 3, 12), api.OK).is(b.hold(1, 5, 3, 13), api.ErrLease)
	b.raw(at(1, 7), nums(5, 3, most)).refused(1, 6, most-10, api.ErrLease).took(1, 5, 0, 3)
}

func unhex(t *testing.T, s string) string {
	t.Helper()
	b, err := hex.DecodeString(strings.ReplaceAll(s, " ", ""))
	if err != nil {
		t.Fatal(err)
	}
	return string(b)
}

// P19.1, P19.3: the rows that are written, reckoned by hand.
func TestKnown(t *testing.T) {
	b := newWorld(t).begin().raw(at(64, 0), treeBytes(64, 1))
	row := unhex(t, "00 00 00 00 00 00 00 40 07")
	value := func(want string) {
		t.Helper()
		l := b.x.Scan([]byte(row), nil)
		if len(l) != 1 || string(l[0].Key) != row || string(l[0].Value) != unhex(t, want) {
			t.Fatalf("%v, not %s", l, want)
		}
	}
	b.took(64, 1000, 0, 1)
	value("e8 07 01 0a")
	b.took(64, 1000, 9, 1)
	value("e8 07 01 13")
	b.is(b.drop(64, 1000, 1, 18), api.OK)
	value("e8 07 01 12")
	b.took(64, 1, 290, 2)
	value("01 02 ac 02")
	b.took(64, 2, most-10, 3)
	value("02 03 80 80 80 80 80 20")
	if l := b.x.Scan(nil, nil); len(l) != 2 {
		t.Fatal(len(l), "rows")
	}
}

// P19.1: which whos and nows may be, asked ahead of all else; nothing is done where one may not.
func TestTakeNumbers(t *testing.T) {
	w := treeWorld(t, 1, 64)
	for _, x := range []*txn.Txn{nil, {}, new(txn.Txn)} {
		takesNumbers(t, &both{w, x, &like{down: api.ErrArg}})
	}
	b := w.begin()
	takesNumbers(t, b)
	b.abort()
	takesNumbers(t, b)
	b = w.begin()
	for who := range 1100 {
		b.take(1, who, 30+who)
	}
	for now := range 100 {
		b.take(64, 7, now)
	}
}

func takesNumbers(t *testing.T, b *both) {
	t.Helper()
	for _, id := range append(oddIds(), 1, 2, 64) {
		for _, who := range someWhos() {
			for _, now := range someNows() {
				l, f := b.take(id, who, now)
				if (who < 1 || who > 1000 || now < 0 || now > most-10) && (f != api.ErrArg || l != (rows.Lease{})) {
					t.Fatal(id, who, now, l, f)
				}
			}
		}
	}
}

// A fault is something for which Take is refused.
type fault struct {
	e            api.Errno
	id, who, now int    // of the call, if not 0
	key, value   string // a row, if the key is not empty
	puts, guards int    // of other keys
}

// faults are in the order in which they are told.
func faults() []fault {
	return []fault{
		{e: api.ErrArg, who: 1001},
		{e: api.ErrArg, now: -1},
		{e: api.ErrNoTree, id: 65},
		{e: api.ErrNoTree, id: 9},
		{e: api.ErrCorrupt, key: at(1, 0), value: "?"},
		{e: api.ErrCorrupt, key: at(1, 0), value: treeBytes(2, 3)},
		{e: api.ErrNoTree, key: at(1, 0), value: treeBytes(1, 3)},
		{e: api.ErrCorrupt, key: at(1, 7), value: nums(6, 1)},
		{e: api.ErrLease, key: at(1, 7), value: nums(6, most, 100)},
		{e: api.ErrArg, key: at(1, 7), value: nums(6, most, 30)},
		{e: api.ErrArg, guards: 256},
		{e: api.ErrArg, puts: 256},
	}
}

// P19.1: of two faults the one that is named first is told, and no row is written.
func TestTakeOrder(t *testing.T) {
	all := faults()
	for i := range all {
		for j := i; j < len(all); j++ {
			w := treeWorld(t, 1)
			id, who, now, puts, guards := 1, 5, 30, 0, 0
			for _, x := range []fault{all[j], all[i]} { // the first one's row stands in the place of the other one's
				if x.key != "" {
					w.begin().raw(x.key, x.value).commits(api.OK)
				}
				id, who, now = cmp.Or(x.id, id), cmp.Or(x.who, who), cmp.Or(x.now, now)
				puts, guards = puts+x.puts, guards+x.guards
			}
			w.begin().fill(min(puts, 256), min(guards, 256)).refused(id, who, now, all[i].e)
		}
	}
}

// P19.1: of each lease, each who and each now.
func TestTakeLeases(t *testing.T) {
	w := newWorld(t)
	b := w.begin().raw(at(3, 0), treeBytes(3, 1))
	for _, now := range []int{0, 1, 9, 10, 500, most - 11, most - 10} {
		for _, until := range around(now) {
			for _, whose := range []int{0, 1, 5, 1000, 1001, most} {
				for _, epoch := range []int{0, 1, 127, most - 1, most} {
					for _, who := range []int{1, 5, 1000} {
						b.raw(at(3, 7), nums(whose, epoch, until)).take(3, who, now)
					}
				}
			}
		}
	}
}

// P19.1: an Active tree's lease may be taken, and a Frozen one's, but not a Deleted one's.
func TestTakeStates(t *testing.T) {
	for _, id := range []int{1, 2, 63, 64} {
		b := newWorld(t).begin().refused(id, 5, 0, api.ErrNoTree)
		b.raw(at(id, 0), treeBytes(id, 1)).took(id, 5, 0, 1)
		b.raw(at(id, 0), treeBytes(id, 2)).took(id, 5, 1, 1).took(id, 6, 11, 2)
		b.raw(at(id, 0), treeBytes(id, 3)).refused(id, 6, 12, api.ErrNoTree).refused(id, 7, 30, api.ErrNoTree)
		b.raw(at(id, 0), treeBytes(id, 1)).took(id, 6, 12, 2)
		b.commits(api.OK)
	}
}

// P19.1: no epoch is above MaxNum, but who has the last one goes on with it.
func TestTakeEpochs(t *testing.T) {
	b := treeWorld(t, 1).begin()
	b.raw(at(1, 7), nums(5, most-1, 20)).took(1, 6, 20, most).took(1, 6, 29, most).refused(1, 5, 30, api.ErrLease)
	b.refused(1, 6, 39, api.ErrArg).refused(1, 5, 39, api.ErrArg)
	b.is(b.hold(1, 6, most, 38), api.OK).is(b.drop(1, 6, most, 38), api.OK).refused(1, 6, 38, api.ErrArg)
}

// P19.2, P19.3: of each lease, each who, epoch and now. (No tree stands there: none is asked for.)
func TestHoldLeases(t *testing.T) {
	w := newWorld(t)
	b := w.begin()
	for _, until := range []int{0, 1, 10, 500, most - 1, most} {
		for _, whose := range []int{0, 5, 1000, most} {
			for _, epoch := range []int{0, 1, 127, most} {
				for _, now := range append(around(until), -1, -10, math.MinInt, most+1, math.MaxInt) {
					for _, who := range []int{whose, whose + 1, -whose, 0, 6, 1<<32 + whose} {
						for _, of := range []int{epoch, epoch + 1, epoch - 1, -epoch, 1<<32 + epoch} {
							b.raw(at(3, 7), nums(whose, epoch, until))
							b.hold(3, who, of, now)
							b.drop(3, who, of, now)
						}
					}
				}
			}
		}
	}
}

// P19.2: numbers are asked of nobody: they are taken as they are. A lease of noughts is that of nobody, till now is less.
func TestHoldAsTheyAre(t *testing.T) {
	b := newWorld(t).begin()
	b.is(b.hold(1, 0, 0, 0), api.ErrLease).is(b.hold(1, 0, 0, -1), api.OK).is(b.hold(1, 0, 0, math.MinInt), api.OK)
	b.is(b.hold(1, 1, 0, -1), api.ErrLease).is(b.hold(1, 0, 1, -1), api.ErrLease).is(b.hold(1, -1, -1, -1), api.ErrLease)
	b.is(b.drop(1, 0, 0, -1), api.ErrArg).is(b.drop(1, 0, 0, 0), api.ErrLease) // PutLease's error
	b.raw(at(1, 7), nums(5, 3, 20))
	b.is(b.drop(1, 5, 3, -1), api.ErrArg).is(b.drop(1, 5, 3, math.MinInt), api.ErrArg).is(b.hold(1, 5, 3, -1), api.OK)
	b.is(b.drop(1, 5, 3, 0), api.OK).is(b.hold(1, 5, 3, 0), api.ErrLease).is(b.hold(1, 5, 3, -1), api.OK)
}

// P19.2, P19.3: ids that no tree has; rows that are no lease.
func TestHoldErrors(t *testing.T) {
	b := treeWorld(t, 1, 64).begin()
	for _, id := range oddIds() {
		for _, now := range []int{-1, 0, 10} {
			for _, who := range []int{0, 5} {
				b.is(b.hold(id, who, 0, now), api.ErrNoTree).is(b.drop(id, who, 0, now), api.ErrNoTree)
			}
		}
	}
	for _, row := range []string{"", "?", nums(5, 3), nums(5, 3, 20, 0), nums(5, 3, most+1), nums(5, 3, 20) + "\x00", "\x85\x00\x03\x14", "\x05\x03\x80", leaseBytes(rows.Lease{Who: 1 << 41})} {
		b.raw(at(1, 7), row).refused(1, 5, 0, api.ErrCorrupt)
		b.is(b.hold(1, 5, 3, 0), api.ErrCorrupt).is(b.drop(1, 5, 3, 0), api.ErrCorrupt).is(b.hold(64, 5, 3, 0), api.OK)
	}
}

// P19.2: a tree that is Deleted, or none, is asked for by Take alone.
func TestHoldStates(t *testing.T) {
	b := treeWorld(t, 1, 2).begin()
	for _, row := range []string{treeBytes(1, 2), treeBytes(1, 3), "?", treeBytes(2, 1)} {
		b.raw(at(1, 0), row).is(b.hold(1, 5, 3, 19), api.OK)
	}
	b.is(b.drop(1, 5, 3, 19), api.OK).is(b.hold(1, 5, 3, 19), api.ErrLease)
}

// R2, P19.1 to P19.3: a transaction that is none, or has ended: its error, behind what is asked first.
func TestDown(t *testing.T) {
	w := treeWorld(t, 1)
	asks := func(b *both, want api.Errno) {
		t.Helper()
		b.refused(1, 5, 0, want).refused(2, 5, 0, want).refused(65, 5, 0, api.ErrNoTree).refused(0, 5, 0, api.ErrNoTree)
		b.refused(65, 0, 0, api.ErrArg).refused(1, 1001, 0, api.ErrArg)
		b.is(b.hold(1, 5, 3, 0), want).is(b.hold(1, 0, 0, -1), want).is(b.hold(65, 5, 3, 0), api.ErrNoTree)
		b.is(b.drop(1, 5, 3, 0), want).is(b.drop(1, 0, 0, -1), want).is(b.drop(-1, 5, 3, 0), api.ErrNoTree)
	}
	for _, x := range []*txn.Txn{nil, {}, new(txn.Txn)} {
		asks(&both{w, x, &like{down: api.ErrArg}}, api.ErrArg)
	}
	b := w.begin()
	b.abort()
	asks(b, api.ErrDone)
	b = w.begin()
	b.commits(api.OK)
	asks(b, api.ErrDone)
	b = w.begin().took(1, 5, 9, 3)
	b.commits(api.OK)
	asks(b, api.ErrDone)
}

// places are rows that another one may write meanwhile, by what they are.
func places() map[string]string {
	return map[string]string{
		"tree": at(1, 0), "count": at(1, 1), "head": at(1, 6), "lease": at(1, 7), "numbered lease": at(1, 7) + nums(0, 0, 0, 0, 0, 0, 0, 0),
		"no tree": at(0, 0), "other tree": at(2, 0), "other lease": at(2, 7), "numbered tree": at(1, 0) + nums(0, 0, 0, 0, 0, 0, 0, 1),
	}
}

// clashes are the places of which a transaction that does so, and writes a row of its own, is in conflict.
func clashes(t *testing.T, do func(b *both)) string {
	t.Helper()
	var out []string
	for what, key := range places() {
		w := treeWorld(t, 1, 2)
		b := w.begin()
		do(b)
		if len(b.m.wrote) < 256 {
			b.raw("own", "")
		}
		other := w.begin()
		value, _ := other.m.get(key) // a row that is written again is one that was written
		other.raw(key, value)
		other.commits(api.OK)
		if b.commit() == api.ErrConflict {
			out = append(out, what)
		}
	}
	slices.Sort(out)
	return strings.Join(out, ", ")
}

// P19.1 to P19.4: what is guarded, by what is answered.
func TestGuarded(t *testing.T) {
	for what, x := range map[string]struct {
		want string
		do   func(b *both)
	}{
		"nothing":          {"", func(b *both) {}},
		"Take":             {"lease, tree", func(b *both) { b.took(1, 5, 9, 3) }},
		"Take behind it":   {"lease, tree", func(b *both) { b.took(1, 6, 20, 4) }},
		"Take by another":  {"", func(b *both) { b.refused(1, 6, 19, api.ErrLease) }},
		"Take of no who":   {"", func(b *both) { b.refused(1, 0, 19, api.ErrArg) }},
		"Take of no now":   {"", func(b *both) { b.refused(1, 5, most-9, api.ErrArg) }},
		"Take of no tree":  {"", func(b *both) { b.refused(3, 5, 19, api.ErrNoTree) }},
		"Take of Deleted":  {"tree", func(b *both) { b.raw(at(1, 0), treeBytes(1, 3)).refused(1, 5, 19, api.ErrNoTree) }},
		"Take of no lease": {"lease", func(b *both) { b.raw(at(1, 7), "?").refused(1, 5, 19, api.ErrCorrupt) }},
		"Take of no epoch": {"lease", func(b *both) { b.raw(at(1, 7), nums(5, most, 0)).refused(1, 5, 19, api.ErrArg) }},
		"Take, no guard":   {"", func(b *both) { b.fill(0, 256).refused(1, 5, 19, api.ErrArg) }},
		"Take, no put":     {"tree", func(b *both) { b.fill(256, 0).refused(1, 5, 19, api.ErrArg) }},
		"Hold":             {"lease", func(b *both) { b.is(b.hold(1, 5, 3, 19), api.OK) }},
		"Hold by another":  {"", func(b *both) { b.is(b.hold(1, 6, 3, 19), api.ErrLease) }},
		"Hold of no epoch": {"", func(b *both) { b.is(b.hold(1, 5, 2, 19), api.ErrLease) }},
		"Hold, ended":      {"", func(b *both) { b.is(b.hold(1, 5, 3, 20), api.ErrLease) }},
		"Hold of no tree":  {"", func(b *both) { b.is(b.hold(0, 5, 3, 19), api.ErrNoTree) }},
		"Hold, no guard":   {"", func(b *both) { b.fill(0, 256).is(b.hold(1, 5, 3, 19), api.ErrArg) }},
		"Hold, no put":     {"lease", func(b *both) { b.fill(256, 0).is(b.hold(1, 5, 3, 19), api.OK) }},
		"Drop":             {"lease", func(b *both) { b.is(b.drop(1, 5, 3, 19), api.OK) }},
		"Drop by another":  {"", func(b *both) { b.is(b.drop(1, 6, 3, 19), api.ErrLease) }},
		"Drop of no now":   {"lease", func(b *both) { b.is(b.drop(1, 5, 3, -1), api.ErrArg) }},
		"Drop, no guard":   {"", func(b *both) { b.fill(0, 256).is(b.drop(1, 5, 3, 19), api.ErrArg) }},
		"Drop, no put":     {"lease", func(b *both) { b.fill(256, 0).is(b.drop(1, 5, 3, 19), api.ErrArg) }},
	} {
		if got := clashes(t, x.do); got != x.want {
			t.Errorf("%s: in conflict by %q, not %q", what, got, x.want)
		}
	}
}

// P19.1 to P19.3: how many keys each call guards and writes: a transaction may have 256 of both.
func TestFull(t *testing.T) {
	w := treeWorld(t, 1, 2)
	b := w.begin().fill(255, 255).took(1, 5, 9, 3)
	b.refused(2, 5, 9, api.ErrArg).took(1, 5, 10, 3) // what stands there is written, and guarded, again
	b.is(b.hold(1, 5, 3, 10), api.ErrArg).is(b.drop(1, 5, 3, 10), api.ErrArg)
	b.abort()
	b = w.begin().fill(256, 255).refused(1, 5, 9, api.ErrArg)
	b.is(b.hold(1, 5, 3, 10), api.ErrArg).refused(1, 5, 9, api.ErrArg)
	b.abort()
	b = w.begin().fill(255, 255)
	b.is(b.drop(1, 5, 3, 10), api.OK).refused(1, 5, 10, api.ErrArg).is(b.hold(1, 5, 3, 9), api.OK)
	b.is(b.drop(2, 5, 3, 10), api.ErrArg)
	b.abort()
	b = w.begin().rawGuard(at(1, 0)).rawGuard(at(1, 7)).raw(at(1, 7), nums(6, 6, 66)).fill(255, 254)
	b.took(1, 6, 9, 6).is(b.hold(1, 6, 6, 10), api.OK).is(b.drop(1, 6, 6, 10), api.OK).took(1, 5, 10, 7)
	b.commits(api.OK)
}

// P19.2: Hold writes nothing: one that did no more is never in conflict.
func TestHoldWritesNothing(t *testing.T) {
	w := treeWorld(t, 1)
	b := w.begin()
	b.is(b.hold(1, 5, 3, 19), api.OK)
	other := w.begin().took(1, 6, 20, 4)
	other.commits(api.OK)
	b.commits(api.OK)
	if n, _ := w.begin().m.commit(); n != 2 {
		t.Fatal(n)
	}
}

// P19.4: what one does that holds is in conflict, as soon as the lease turned meanwhile, whoever turned it.
func TestTurnedMeanwhile(t *testing.T) {
	for what, turn := range map[string]func(b *both){
		"taken by another": func(b *both) { b.took(1, 6, 20, 4) },
		"taken again":      func(b *both) { b.took(1, 5, 20, 4) },
		"gone on with":     func(b *both) { b.took(1, 5, 19, 3) },
		"dropped":          func(b *both) { b.is(b.drop(1, 5, 3, 19), api.OK) },
	} {
		for do, does := range map[string]func(b *both){
			"Hold": func(b *both) { b.is(b.hold(1, 5, 3, 19), api.OK) },
			"Drop": func(b *both) { b.is(b.drop(1, 5, 3, 19), api.OK) },
			"Take": func(b *both) { b.took(1, 5, 19, 3) },
			"both": func(b *both) { b.took(1, 5, 19, 3).is(b.hold(1, 5, 3, 28), api.OK) },
		} {
			w := treeWorld(t, 1, 2)
			b, other := w.begin(), w.begin()
			does(b)
			turn(other)
			b.raw("own", what+do)
			other.commits(api.OK)
			b.commits(api.ErrConflict)
			last := w.begin()
			if _, there := last.m.rows["own"]; there {
				t.Fatal(what, do)
			}
		}
	}
}

// P19.4, DOC's example 5: a sequencer whose lease has ended writes late: in conflict, or ErrLease; the other one's epoch is greater.
func TestLate(t *testing.T) {
	w := treeWorld(t, 1)
	late := w.begin()
	late.is(late.hold(1, 5, 3, 19), api.OK).raw("own", "late")
	next := w.begin().took(1, 6, 20, 4)
	next.commits(api.OK)
	late.commits(api.ErrConflict)
	late = w.begin()
	late.is(late.hold(1, 5, 3, 20), api.ErrLease).is(late.hold(1, 5, 3, 19), api.ErrLease).is(late.drop(1, 5, 3, 19), api.ErrLease)
	late.is(late.hold(1, 6, 4, 20), api.OK).raw("own", "in time")
	late.commits(api.OK)
}

// P19.1, P19.4: of two that take at once one has it; a tree that is deleted at once is in nobody's lease.
func TestTakenAtOnce(t *testing.T) {
	w := treeWorld(t, 1, 2)
	a, b, other := w.begin().took(1, 5, 20, 4), w.begin().took(1, 6, 20, 4), w.begin().took(2, 6, 20, 4)
	b.commits(api.OK)
	a.commits(api.ErrConflict)
	other.commits(api.OK)
	a = w.begin().refused(1, 5, 20, api.ErrLease).took(1, 5, 30, 5)
	b = w.begin().raw(at(1, 0), treeBytes(1, 3))
	b.commits(api.OK)
	a.commits(api.ErrConflict)
	a = w.begin().refused(1, 5, 30, api.ErrNoTree)
	a.is(a.hold(1, 6, 4, 29), api.OK) // Hold asks for no tree
}

// W3: a lease of one tree turns nothing of another one's.
func TestApart(t *testing.T) {
	var ids []int
	for id := range 64 {
		ids = append(ids, id+1)
	}
	w := treeWorld(t, ids...)
	b := w.begin()
	for _, id := range ids {
		b.took(id, 100+id, 20+id, 4)
		for _, other := range ids {
			epoch, who, now := 3, 5, 0
			if other <= id {
				epoch, who, now = 4, 100+other, 20+other
			}
			b.is(b.hold(other, who, epoch, now), api.OK)
		}
	}
	b.is(b.drop(33, 133, 4, 54), api.OK).is(b.hold(32, 132, 4, 54), api.OK).is(b.hold(34, 134, 4, 54), api.OK)
	b.commits(api.OK)
}

// Nothing is kept by the package: two engines at once have leases of their own.
func TestEngines(t *testing.T) {
	a, b := treeWorld(t, 1).begin(), treeWorld(t, 1).begin()
	a.took(1, 6, 20, 4)
	b.is(b.hold(1, 5, 3, 19), api.OK).took(1, 7, 30, 4)
	a.is(a.hold(1, 6, 4, 29), api.OK).is(a.hold(1, 7, 4, 29), api.ErrLease)
	a.commits(api.OK)
	b.commits(api.OK)
}

// What is asked of a lease is told by an error that errors.As finds, however it is wrapped.
func TestTold(t *testing.T) {
	l := rows.Lease{Who: 5, Epoch: 3, Until: 20}
	_, another := following(l, 6, 19)
	_, none := following(rows.Lease{Who: 5, Epoch: most, Until: 20}, 5, 20)
	for _, x := range []struct {
		err  error
		want api.Errno
	}{
		{nil, api.OK}, {errors.New("another"), api.OK}, {api.ErrCorrupt, api.ErrCorrupt},
		{another, api.ErrLease}, {none, api.ErrArg}, {held(l, 5, 3, 20), api.ErrLease}, {held(l, 5, 4, 19), api.ErrLease},
		{held(l, 6, 3, 19), api.ErrLease}, {held(l, 5, 3, 19), api.OK},
	} {
		if f := told(x.err); f != x.want {
			t.Errorf("%v: %d, not %d", x.err, f, x.want)
		}
		if x.err == nil {
			continue
		}
		if f := told(fmt.Errorf("around: %w", x.err)); f != x.want {
			t.Errorf("around %v: %d, not %d", x.err, f, x.want)
		}
	}
	if s := another.Error(); s != "it is another one's: sawyer: error 13" {
		t.Error(s)
	}
}

// holders are all that hold a tree's lease, by what Hold says of each.
func holders(w *world, id, whos, epochs, now int) []rows.Lease {
	w.Helper()
	b := w.begin()
	defer b.abort()
	var out []rows.Lease
	for who := range whos + 2 {
		for epoch := range epochs + 3 {
			if Hold(b.x, id, who, epoch, now) == api.OK {
				out = append(out, rows.Lease{Who: who, Epoch: epoch})
			}
		}
	}
	return out
}

// A watch looks at a tree's lease behind each commit.
type watch struct {
	epoch int         // the greatest that there has been
	whose map[int]int // by epochs
}

func (h *watch) look(w *world, whos, now int) {
	w.Helper()
	b := w.begin()
	l, _ := b.m.lease(1)
	b.abort()
	if l.Epoch < h.epoch {
		w.Fatal(l, "behind", h.epoch)
	}
	h.epoch = l.Epoch
	all := holders(w, 1, whos, h.epoch, now)
	if len(all) > 1 {
		w.Fatal(all)
	}
	for _, l := range all {
		if was := h.whose[l.Epoch]; l.Epoch != h.epoch || was != 0 && was != l.Who {
			w.Fatal(l, "behind", h.epoch, was)
		}
		h.whose[l.Epoch] = l.Who
	}
}

// P19.4: at no time two hold, epochs never fall, and who holds has the greatest one there has been; many go on at once, and the clock goes on, too.
func TestOneHolds(t *testing.T) {
	t.Parallel()
	const whos = 4
	r := rand.New(rand.NewPCG(19, 1))
	held := 0
	for range 40 {
		w := newWorld(t)
		w.begin().raw(at(1, 0), treeBytes(1, 1)).commits(api.OK)
		h := &watch{whose: map[int]int{}}
		now := 0
		var open []*both
		for range 120 {
			now += r.IntN(4)
			if len(open) == 3 {
				at := r.IntN(len(open))
				open[at].commit()
				open = slices.Delete(open, at, at+1)
				h.look(w, whos, now)
				continue
			}
			b, who := w.begin(), r.IntN(whos)+1
			if r.IntN(3) > 0 {
				b.take(1, who, now)
			}
			if r.IntN(4) == 0 {
				b.drop(1, who, h.epoch, now)
			}
			if r.IntN(2) == 0 {
				b.hold(1, who, h.epoch, now)
				b.raw("own", fmt.Sprint(who))
			}
			open = append(open, b)
		}
		held += len(h.whose)
	}
	if held < 40 {
		t.Fatal("few leases were held:", held)
	}
}

// W5: once a lease's term is over, whoever takes it has it, by the next epoch, whatever became of who had it.
func TestGoesOn(t *testing.T) {
	w := newWorld(t)
	w.begin().raw(at(1, 0), treeBytes(1, 1)).commits(api.OK)
	for turn := range 60 {
		b := w.begin().took(1, turn%7+1, turn*10, turn+1)
		b.commits(api.OK)
		switch {
		case turn%3 == 0:
			w.e.Flush()
		case turn%10 == 1:
			w.e.Compact()
		case turn%4 == 1:
			w.crash()
		}
		b = w.begin()
		b.is(b.hold(1, turn%7+1, turn+1, turn*10+9), api.OK).refused(1, 8, turn*10+9, api.ErrLease)
		b.abort()
	}
}

// A stage holds a world of some trees, transactions that go on in it at once, and a clock, and does as bytes say.
type stage struct {
	*world
	seed []byte
	open []*both
	now  int
}

func (s *stage) next() int {
	if len(s.seed) == 0 {
		return 0
	}
	x := s.seed[0]
	s.seed = s.seed[1:]
	return int(x)
}

func (s *stage) id() int {
	x := s.next()
	if odd := oddIds(); x > 235 {
		return odd[x%len(odd)]
	}
	return x%3 + 1 // few trees, so that they meet
}

func (s *stage) tick() int {
	x := s.next()
	if x > 220 {
		return someNows()[x%len(someNows())]
	}
	return s.now + x%23 - 11
}

func (s *stage) who() int {
	x := s.next()
	if x > 235 {
		return someWhos()[x%len(someWhos())]
	}
	return x%3 + 1
}

// asks asks of a transaction one thing.
func (s *stage) asks(b *both) {
	s.Helper()
	id := s.id()
	was, _ := b.m.lease(id)
	switch x := s.next(); x % 12 {
	case 0, 1, 2:
		b.take(id, s.who(), s.tick())
	case 3:
		b.take(id, max(was.Who, 1), s.tick())
	case 4, 5:
		b.hold(id, was.Who, was.Epoch, s.tick())
	case 6:
		b.hold(id, s.who(), was.Epoch+s.next()%3-1, s.tick())
	case 7:
		b.drop(id, was.Who, was.Epoch, s.tick())
	case 8:
		b.drop(id, s.who(), was.Epoch+s.next()%3-1, s.tick())
	case 9:
		b.put(at(s.next()%5, 0), treeBytes(s.next()%4, s.next()%4))
	case 10:
		b.put(at(s.next()%4, 7), nums(s.who()&(1<<41-1), s.next()%4*(most/3), max(s.tick(), 0)))
	case 11:
		b.put(at(s.next()%4, 1), "count")
		b.guard(at(s.next()%4, s.next()%8))
	}
}

// step begins, asks, commits, aborts, or turns the engine.
func (s *stage) step() {
	s.Helper()
	x := s.next()
	if len(s.open) == 0 || x < 30 && len(s.open) < 4 {
		s.open = append(s.open, s.begin())
		return
	}
	at := s.next() % len(s.open)
	b := s.open[at]
	switch {
	case x < 200:
		s.asks(b)
	case x < 235:
		b.commit()
		s.open = slices.Delete(s.open, at, at+1)
	case x < 240:
		b.abort()
		s.open = slices.Delete(s.open, at, at+1)
	case x < 246:
		s.now += s.next() % 8
	case x < 250:
		s.e.Flush()
		s.e.Compact()
	case x < 252:
		s.crash()
		s.open = nil
	case x < 254 && len(b.m.wrote) < 50:
		b.fill(256-len(b.m.wrote)-s.next()%3, 0)
	case len(b.m.guards) < 50:
		b.fill(0, 256-len(b.m.guards)-s.next()%3)
	}
}

func walk(t *testing.T, seed []byte) {
	t.Helper()
	s := &stage{world: newWorld(t), seed: seed}
	b := s.begin()
	for id := range 3 {
		b.raw(at(id+1, 0), treeBytes(id+1, id%2+1))
	}
	b.commits(api.OK)
	for len(s.seed) > 0 {
		s.step()
	}
	for _, b := range s.open {
		b.commit()
	}
	last := s.begin()
	if !maps.Equal(last.m.rows, s.s.rows) {
		t.Fatal("not what was committed")
	}
}

func TestWalk(t *testing.T) {
	t.Parallel()
	r := rand.New(rand.NewPCG(19, 2))
	for range 600 {
		seed := make([]byte, 800)
		for i := range seed {
			seed[i] = byte(r.Uint32())
		}
		walk(t, seed)
		if t.Failed() {
			t.Fatalf("% x", seed)
		}
	}
}

func FuzzLease(f *testing.F) {
	f.Add([]byte(nil))
	for n := range 12 {
		f.Add([]byte{0, 0, 0, 31, 0, 0, byte(n), 0, 11, 31, 0, 0, 4, 11, 210, 0})
	}
	f.Fuzz(func(t *testing.T, b []byte) { walk(t, b[:min(len(b), 500)]) })
}
