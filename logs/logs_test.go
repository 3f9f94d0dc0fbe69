package logs

import (
	"bytes"
	"fmt"
	"maps"
	"math"
	"math/rand/v2"
	"runtime"
	"slices"
	"strings"
	"sync"
	"testing"
	"time"

	"sawyer/api"
	"sawyer/disk"
	"sawyer/hash"
	"sawyer/rows"
)

// allOps are the chapter's operations, by its own numbers.
func allOps() []int { return []int{1, 2, 3, 4, 5, 6, 7, 8, 9, 10, 11, 12, 13, 14, 15, 16, 17, 18} }

// oddOps are none, so far as their low bits.
func oddOps() []int {
	return []int{0, -1, -18, 19, 20, 32, 255, 256, 257, 256 + 5, 256 + 14, 256 + 15, 1<<32 + 5, 1<<32 + 16, math.MinInt, math.MinInt + 5, math.MaxInt}
}

func TestNumbers(t *testing.T) {
	is := []int{Create, Freeze, Delete, Quota, List, Queue, Head, Inclusion, Consistency, Range, Take, Integrate, Release, Tick, Flush, Compact, Waiting, Leased}
	if !slices.Equal(is, allOps()) {
		t.Fatal(is)
	}
}

// The chapter's example, and DOC's first two.
func TestExample(t *testing.T) {
	w := newWorld(t).makes(1).waits(1, "x", 0).takes(1, 7, 1)
	a := w.do(Call{Op: Integrate, Tree: 1, A: 7, B: 1, C: 32})
	if a.E != api.OK || a.Head.Size != 1 || a.Head.Root != hash.Leaf([]byte("x")) || !slices.Equal(a.Head.Nodes, []string{a.Head.Root}) {
		t.Fatal(short(a))
	}
	ops := w.d.Ops()
	if w.had(1, "x", 0, true); w.d.Ops() != ops {
		t.Fatal("it is written again")
	}
	w.waits(1, "y", 1).had(1, "y", 1, false).quiet()
}

// DOC's example 4: two clients queue two leaves at once.
func TestTwoAtOnce(t *testing.T) {
	w := treeWorld(t, 1)
	a, b := w.start(queueOf(1, "a")), w.start(queueOf(1, "b"))
	a.step()
	b.step()
	if x, done := b.step(); !done || x.N != 0 {
		t.Fatal(short(x), done)
	}
	if x, done := a.step(); done {
		t.Fatal(short(x))
	}
	if x, n := a.rest(); n != 2 || x.N != 1 {
		t.Fatal(short(x), n)
	}
	a, b = w.start(queueOf(1, "c")), w.start(queueOf(1, "c"))
	a.step()
	b.step()
	a.step()
	b.step()
	if x, done := b.step(); !done || !x.Is || x.N != 2 { // the same leaf: its place is told by the step of asking
		t.Fatal(short(x), done)
	}
	w.quiet()
}

// DOC's example 5: a sequencer whose lease has ended writes late.
func TestLate(t *testing.T) {
	w := treeWorld(t, 1).queued(1, 0, 3).takes(1, 5, 1)
	late := w.start(Call{Op: Integrate, Tree: 1, A: 5, B: 1, C: 1})
	late.step()
	w.ticks(10).takes(1, 6, 2)
	if _, done := late.step(); done {
		t.Fatal("it is done")
	}
	if a, n := late.rest(); a.E != api.ErrLease || n != 1 {
		t.Fatal(short(a), n)
	}
	w.joins(1, 1, 1).fails(Call{Op: Integrate, Tree: 1, A: 5, B: 1, C: 1}, api.ErrLease)
	late = w.start(Call{Op: Integrate, Tree: 1, A: 6, B: 2, C: 1}) // no tick, but another one holds it meanwhile
	late.step()
	w.gets(Call{Op: Release, Tree: 1, A: 6, B: 2}, Answer{}).takes(1, 7, 3)
	if _, done := late.step(); done {
		t.Fatal("it is done")
	}
	if a, _ := late.rest(); a.E != api.ErrLease {
		t.Fatal(short(a))
	}
	w.joins(1, 32, 3).quiet()
}

// DOC's examples 7 and 9.
func TestFrozenAndDeleted(t *testing.T) {
	w := treeWorld(t, 2).queued(1, 0, 6).takes(1, 5, 1).joins(1, 2, 2)
	w.gets(Call{Op: Freeze, Tree: 1}, Answer{})
	w.fails(queueOf(1, "more"), api.ErrFrozen).had(1, leafOf(5), 5, false).joins(1, 2, 4)
	w.fails(Call{Op: Inclusion, Tree: 1, A: 1, B: 5}, api.ErrRange).fails(Call{Op: Consistency, Tree: 1, A: 1, B: 5}, api.ErrRange)
	w.gets(Call{Op: Quota, Tree: 1, A: 7}, Answer{}).gets(Call{Op: Freeze, Tree: 1}, Answer{})
	w.gets(Call{Op: List}, Answer{Trees: []rows.Tree{{Id: 1, State: 2, Quota: 7, Name: "name", Key: keyOf(1)}, {Id: 2, State: 1, Quota: 1000, Name: "name", Key: keyOf(2)}}})
	w.joins(1, 2, 6).gets(Call{Op: Delete, Tree: 1}, Answer{})
	w.gets(Call{Op: Leased, Tree: 1}, Answer{Lease: rows.Lease{Who: 5, Epoch: 1, Until: 10}}).ticks(3)
	w.gets(Call{Op: List}, Answer{Trees: []rows.Tree{{Id: 2, State: 1, Quota: 1000, Name: "name", Key: keyOf(2)}}})
	for _, op := range allOps() {
		if op != Create && op != List && op < Tick || op == Waiting {
			w.fails(Call{Op: op, Tree: 1, A: 5, B: 1, C: 1}, errorOfDeleted(op))
		}
	}
	w.gets(Call{Op: Leased, Tree: 1}, Answer{Lease: rows.Lease{Who: 5, Epoch: 1, Until: 3}})
	w.makes(3).same("all")
	w.gets(Call{Op: Delete, Tree: 2}, Answer{}).gets(Call{Op: Delete, Tree: 3}, Answer{}).gets(Call{Op: List}, Answer{})
	w.makes(4).quiet()
}

// errorOfDeleted: a lease is dropped without asking for the tree (chapter 19).
func errorOfDeleted(op int) api.Errno {
	if op == Release {
		return api.OK
	}
	return api.ErrNoTree
}

// P21.1: the clock is 0 to MaxNum.
func TestOpenNow(t *testing.T) {
	d, _ := disk.New(room)
	for _, now := range []int{0, 1, 9, most - 1, most} {
		s, f := Open(d, now)
		if s == nil || f != api.OK || s.Now() != now || s.Now() != now {
			t.Fatal(now, f)
		}
	}
	none, _ := disk.New(0)
	for _, now := range oddNums() {
		for _, d := range []*disk.Disk{d, none, nil, {}} {
			if s, f := Open(d, now); s != nil || f != api.ErrArg {
				t.Fatal(now, f)
			}
		}
	}
}

// P21.1: lsm's error, behind the clock's.
func TestOpenErrors(t *testing.T) {
	bad, _ := disk.Load(room, []disk.File{{Name: "cur", Safe: 1, Bytes: []byte("?")}})
	off, _ := disk.New(room)
	w := treeWorld(t, 1).queued(1, 0, 9)
	w.gets(Call{Op: Flush}, Answer{})
	l := w.d.Dump()
	for i := range l {
		if strings.HasPrefix(l[i].Name, "t") {
			l[i].Bytes[0] ^= 1 // DOC's example 6
		}
	}
	turned, f := disk.Load(room, l)
	if f != api.OK || len(l) < 3 {
		t.Fatal(f, len(l))
	}
	clean, _ := disk.Load(room, []disk.File{{Name: "tmp"}})
	clean.Cut(0)
	off.Cut(0)
	off.Append("a", nil)
	for i, x := range []struct {
		d    *disk.Disk
		want api.Errno
	}{{nil, api.ErrArg}, {&disk.Disk{}, api.ErrArg}, {bad, api.ErrCorrupt}, {turned, api.ErrCorrupt}} {
		if s, f := Open(x.d, 0); s != nil || f != x.want {
			t.Fatal(i, f)
		}
		if s, f := Open(x.d, -1); s != nil || f != api.ErrArg {
			t.Fatal(i, f)
		}
	}
	if s, f := Open(off, 0); s == nil || f != api.OK { // nothing is to be cleaned
		t.Fatal(f)
	}
}

// P21.1: of a service that is none every call is answered at its first step.
func TestNotMade(t *testing.T) {
	for _, s := range []*Logs{nil, {}} {
		if s.Now() != 0 {
			t.Fatal(s.Now())
		}
		for _, op := range slices.Concat(allOps(), oddOps()) {
			for _, c := range []Call{{Op: op}, {Op: op, Tree: 1, A: 1, B: 1, C: 1, Name: "a", Key: keyOf(1), Data: []byte("x")}} {
				if a := s.Do(c); !sameAnswer(a, Answer{E: api.ErrArg}) {
					t.Fatal(op, short(a))
				}
				j := s.Start(c)
				if j == nil {
					t.Fatal(op, "no job")
				}
				for range 3 {
					if a, done := j.Step(); !done || !sameAnswer(a, Answer{E: api.ErrArg}) {
						t.Fatal(op, short(a), done)
					}
				}
			}
		}
		if s.Now() != 0 {
			t.Fatal(s.Now())
		}
	}
	for _, j := range []*Job{nil, {}} {
		for range 3 {
			if a, done := j.Step(); !done || !sameAnswer(a, Answer{E: api.ErrArg}) {
				t.Fatal(short(a), done)
			}
		}
	}
}

// somethingOf are calls that all go well, of every operation but Delete and Freeze, once each.
func somethingOf() []Call {
	return []Call{
		{Op: Create, A: 3, Name: "b", Key: keyOf(2)},
		{Op: Quota, Tree: 1, A: 9},
		{Op: List},
		{Op: Queue, Tree: 1, Data: []byte("new")},
		{Op: Head, Tree: 1},
		{Op: Inclusion, Tree: 1, A: 1, B: 3},
		{Op: Consistency, Tree: 1, A: 1, B: 3},
		{Op: Range, Tree: 1, A: 1, B: 3},
		{Op: Take, Tree: 1, A: 5},
		{Op: Integrate, Tree: 1, A: 5, B: 1, C: 1},
		{Op: Flush},
		{Op: Release, Tree: 1, A: 5, B: 1},
		{Op: Tick, A: 3},
		{Op: Waiting, Tree: 1},
		{Op: Leased, Tree: 1},
	}
}

// steps are how many a call takes that nobody comes in the way of.
func steps(op int) int {
	if slices.Contains([]int{1, 2, 3, 4, 6, 11, 12, 13}, op) {
		return 2
	}
	return 1
}

func bigWorld(t *testing.T) *world {
	t.Helper()
	return treeWorld(t, 1).queued(1, 0, 6).takes(1, 5, 1).joins(1, 4, 4)
}

// P21.2: two steps for what writes, one for what does not.
func TestSteps(t *testing.T) {
	w := bigWorld(t)
	all := append(somethingOf(), Call{Op: Freeze, Tree: 1}, Call{Op: Freeze, Tree: 1}, Call{Op: Quota, Tree: 1, A: 9}, Call{Op: Delete, Tree: 1})
	for _, c := range all {
		if a, n := w.start(c).rest(); a.E != api.OK || n != steps(c.Op) {
			t.Fatal(short(c), short(a), n)
		}
		w.same(short(c))
	}
	w.makes(3)
	for _, op := range slices.Concat(allOps(), oddOps()) {
		if op == Flush || op == Compact || op == List || op == Leased {
			continue
		}
		if a, n := w.start(Call{Op: op, Tree: 2, A: -1, Data: make([]byte, 513)}).rest(); op != Waiting && op != Freeze && op != Delete && (a.E == api.OK || n != 1) {
			t.Fatal(op, short(a), n)
		}
	}
	if a, n := w.start(queueOf(3, "x")).rest(); a.Is || n != 2 {
		t.Fatal(short(a), n)
	}
	if a, n := w.start(queueOf(3, "x")).rest(); !a.Is || n != 1 {
		t.Fatal(short(a), n)
	}
	w.quiet()
}

// P21.2: Do is Start and its steps, and the answer of what is done stays.
func TestDo(t *testing.T) {
	one, other := bigWorld(t), bigWorld(t)
	for _, c := range append(somethingOf(), Call{Op: Freeze, Tree: 1}, Call{Op: Delete, Tree: 1}, Call{Op: Compact}, Call{}) {
		b := one.start(c)
		want, _ := b.rest()
		if a := other.s.Do(c); !sameAnswer(a, want) {
			t.Fatal(short(c), short(a), short(want))
		}
		for range 3 {
			if a, done := b.step(); !done || !sameAnswer(a, want) {
				t.Fatal(short(c), short(a), done)
			}
		}
	}
	if !maps.Equal(one.stored(), other.stored()) || one.s.Now() != other.s.Now() {
		t.Fatal("not the same")
	}
}

// P21.2: what is done answers the same again, whatever has been done since; and nothing is done again.
func TestDoneStays(t *testing.T) {
	w := bigWorld(t)
	var done []*both
	for _, c := range append(somethingOf(), Call{Op: Freeze, Tree: 1}, Call{Op: Delete, Tree: 1}, Call{Op: 77}) {
		b := w.start(c)
		b.rest()
		for _, x := range append(done, b) {
			x.step()
		}
		done = append(done, b)
	}
	rowsNow, clock := w.stored(), w.s.Now()
	w.crash(clock)
	for _, b := range done {
		if a, is := b.j.Step(); !is || !sameAnswer(a, b.m.answer) {
			t.Fatal(short(a), is)
		}
	}
	if w.s.Now() != clock || !maps.Equal(w.stored(), rowsNow) {
		t.Fatal("done again")
	}
}

// P21.3: what of a Call an operation does not name, it does not ask for.
func TestOtherFields(t *testing.T) {
	used := map[int]string{1: "ank", 2: "t", 3: "t", 4: "ta", 5: "", 6: "td", 7: "t", 8: "tab", 9: "tab", 10: "tab", 11: "ta", 12: "tabc", 13: "tab", 14: "a", 15: "", 16: "", 17: "t", 18: "t"}
	plain, filled := bigWorld(t), bigWorld(t)
	for _, c := range append(somethingOf(), Call{Op: Freeze, Tree: 1}, Call{Op: Delete, Tree: 1}) {
		x := c
		for _, f := range []struct {
			name string
			to   *int
		}{{"t", &x.Tree}, {"a", &x.A}, {"b", &x.B}, {"c", &x.C}} {
			if !strings.Contains(used[c.Op], f.name) {
				*f.to = -7
			}
		}
		if c.Op != Create {
			x.Name, x.Key = strings.Repeat("?", 200), "?"
		}
		if c.Op != Queue {
			x.Data = make([]byte, 600)
		}
		want := plain.do(c)
		if a := filled.s.Do(x); want.E != api.OK || !sameAnswer(a, want) {
			t.Fatal(short(x), short(a), short(want))
		}
	}
	if !maps.Equal(plain.stored(), filled.stored()) {
		t.Fatal("not the same rows")
	}
}

// P21.3: any other operation is ErrArg.
func TestNoOperation(t *testing.T) {
	w := bigWorld(t)
	for _, op := range oddOps() {
		for id := range 3 {
			w.fails(Call{Op: op, Tree: id, A: 1, B: 1, C: 1, Name: "n", Key: keyOf(1), Data: []byte("x")}, api.ErrArg)
		}
	}
	w.same("none").quiet()
}

// P21.3: Create of names, keys and quotas at each border.
func TestCreate(t *testing.T) {
	w := newWorld(t)
	id := 0
	for _, name := range []int{0, 1, 2, 31, 32, 99, 100, 101, 127, 128, 255, 256, 257, 1024, 1 << 16} {
		for _, key := range []int{0, 1, 31, 32, 33, 64, 288, 1 << 16} {
			for _, quota := range []int{0, 1, 999, 1000, 1001, 1 << 32, -1} {
				if id > 30 && key == 32 && quota >= 0 && quota <= 1000 { // few trees
					continue
				}
				c := Call{Op: Create, A: quota, Name: strings.Repeat("n", name), Key: strings.Repeat("k", key)}
				if name >= 1 && name <= 100 && key == 32 && quota >= 0 && quota <= 1000 {
					id++
					w.gets(c, Answer{N: id})
				} else {
					w.fails(c, api.ErrArg)
				}
			}
		}
	}
	for _, quota := range oddNums() {
		w.fails(Call{Op: Create, A: quota, Name: "n", Key: keyOf(1)}, api.ErrArg)
	}
	w.gets(Call{Op: Create, Name: "\x00\xff", Key: strings.Repeat("\x00", 32)}, Answer{N: id + 1})
	w.same("Create").crash(0)
	w.do(Call{Op: List})
}

// P21.3: there are at most 64 trees, also when some are Deleted.
func TestCreateMost(t *testing.T) {
	w := newWorld(t)
	for id := 1; id <= 64; id++ {
		w.makes(id)
		if id%5 == 0 {
			w.gets(Call{Op: Delete, Tree: id}, Answer{})
		}
	}
	ops := w.d.Ops()
	for range 3 {
		w.fails(Call{Op: Create, Name: "n", Key: keyOf(1)}, api.ErrArg)
	}
	if w.d.Ops() != ops {
		t.Fatal("something is written")
	}
	if a := w.do(Call{Op: List}); len(a.Trees) != 52 {
		t.Fatal(len(a.Trees))
	}
	w.queued(64, 0, 1).queued(1, 0, 1).same("64").crash(7)
	w.fails(Call{Op: Create, Name: "n", Key: keyOf(1)}, api.ErrArg)
	w.do(Call{Op: List})
	w.quiet()
}

// P21.3: how many trees there have been: rows.Fresh's errors, behind that of the tree.
func TestCreateFresh(t *testing.T) {
	good, bad := Call{Op: Create, Name: "n", Key: keyOf(1)}, Call{Op: Create, A: 1001, Name: "n", Key: keyOf(1)}
	for _, x := range []struct {
		row  string
		want api.Errno
	}{{"", api.ErrCorrupt}, {"?", api.OK}, {nums(0), api.OK}, {nums(1, 1), api.ErrCorrupt}, {nums(63), api.OK}, {nums(64), api.ErrArg}, {nums(most), api.ErrArg}, {nums(most + 1), api.ErrCorrupt}, {"\x80\x00", api.ErrCorrupt}} {
		w := newWorld(t).raw(at(0, 0), x.row)
		if a := w.s.Do(bad); !sameAnswer(a, Answer{E: api.ErrArg}) {
			t.Fatal(short(a))
		}
		a := w.s.Do(good)
		if a.E != x.want || a.E != api.OK && a.N != 0 || a.E == api.OK && a.N != int(x.row[0])+1 {
			t.Fatalf("%q: %s", x.row, short(a))
		}
	}
}

// P21.3: a tree's state and quota, and what goes wrong, in its order.
func TestTurned(t *testing.T) {
	w := treeWorld(t, 2)
	for _, id := range append(oddIds(), 3, 64) {
		for _, op := range []int{Freeze, Delete, Quota} {
			w.fails(Call{Op: op, Tree: id}, api.ErrNoTree)
		}
		for _, quota := range append(oddNums(), 1001, 1024, 1<<32) {
			w.fails(Call{Op: Quota, Tree: id, A: quota}, api.ErrArg)
		}
	}
	for _, quota := range []int{0, 1, 2, 500, 999, 1000} {
		w.gets(Call{Op: Quota, Tree: 1, A: quota}, Answer{})
		w.fails(Call{Op: Quota, Tree: 1, A: 1001}, api.ErrArg).fails(Call{Op: Quota, Tree: 1, A: -1}, api.ErrArg).same("Quota")
	}
	w.gets(Call{Op: Quota, Tree: 1, A: 2}, Answer{}).queued(1, 0, 2).fails(queueOf(1, "more"), api.ErrQuota)
	w.gets(Call{Op: Quota, Tree: 1, A: 3}, Answer{}).waits(1, "more", 2).fails(queueOf(1, "and more"), api.ErrQuota)
	w.gets(Call{Op: Quota, Tree: 1, A: 1}, Answer{}).fails(queueOf(1, "and more"), api.ErrQuota).had(1, "more", 2, false)
	w.gets(Call{Op: Freeze, Tree: 1}, Answer{}).gets(Call{Op: Quota, Tree: 1, A: 9}, Answer{}).fails(queueOf(1, "and more"), api.ErrFrozen)
	w.gets(Call{Op: Delete, Tree: 1}, Answer{}).fails(Call{Op: Quota, Tree: 1, A: 9}, api.ErrNoTree).fails(Call{Op: Quota, Tree: 1, A: -9}, api.ErrArg)
	w.fails(Call{Op: Freeze, Tree: 1}, api.ErrNoTree).fails(Call{Op: Delete, Tree: 1}, api.ErrNoTree)
	w.queued(2, 0, 3).same("turned").quiet()
}

// P21.3: a tree that is ErrCorrupt is, for whoever asks for it.
func TestCorrupt(t *testing.T) {
	type fault struct {
		table  int
		counts []int // the operations that ask for it
	}
	for _, f := range []fault{
		{0, []int{2, 3, 4, 6, 7, 8, 9, 10, 11, 12, 17}},
		{1, []int{6, 12, 17}},
		{6, []int{7, 8, 9, 10, 12}},
		{7, []int{11, 12, 13, 18}},
	} {
		for op := 1; op <= 18; op++ {
			if op >= Tick && op <= Compact {
				continue
			}
			w := bigWorld(t).raw(at(1, f.table), "?")
			c := Call{Op: op, Tree: 1, A: 5, B: 1, C: 1, Name: "n", Key: keyOf(2), Data: []byte("new")}
			if op == 8 || op == 9 || op == 10 {
				c.A, c.B = 1, 3
			}
			want := api.OK
			if slices.Contains(f.counts, op) {
				want = api.ErrCorrupt
			}
			before := w.stored()
			a := w.s.Do(c)
			if a.E != want || want != api.OK && (!sameAnswer(a, Answer{E: want}) || !maps.Equal(before, w.stored())) {
				t.Fatal(op, f.table, short(a))
			}
			if op == List && len(a.Trees) != 0 != (f.table != 0) {
				t.Fatal(short(a))
			}
		}
	}
}

// P21.3: List has all trees by their Ids that are not Deleted.
func TestList(t *testing.T) {
	w := newWorld(t).gets(Call{Op: List}, Answer{})
	for id := 1; id <= 20; id++ {
		w.gets(Call{Op: Create, A: id, Name: strings.Repeat("n", 21-id), Key: keyOf(30 - id)}, Answer{N: id})
		w.do(Call{Op: List})
	}
	r := rand.New(rand.NewPCG(21, 5))
	for _, i := range r.Perm(20) {
		w.gets(Call{Op: []int{Freeze, Delete}[i%2], Tree: i + 1}, Answer{})
		w.do(Call{Op: List})
	}
	if a := w.do(Call{Op: List}); len(a.Trees) != 10 || a.Trees[0].Id != 1 || a.Trees[9].Id != 19 {
		t.Fatal(short(a))
	}
}

// P21.3: leaves of any length and bytes.
func TestQueue(t *testing.T) {
	w := treeWorld(t, 1)
	n := 0
	for _, size := range []int{0, 1, 31, 32, 33, 255, 256, 511, 512} {
		for _, with := range []string{"a", "\x00", "\xff"} {
			if size > 0 || with == "a" {
				w.waits(1, strings.Repeat(with, size), n).had(1, strings.Repeat(with, size), n, false)
				n++
			}
		}
		w.gets(Call{Op: Waiting, Tree: 1}, Answer{N: n})
	}
	for _, size := range []int{513, 514, 768, 1024, 1025, 1 << 16, 1 << 20} {
		w.fails(queueOf(1, strings.Repeat("l", size)), api.ErrArg).fails(queueOf(9, strings.Repeat("l", size)), api.ErrArg)
	}
	w.gets(Call{Op: Queue, Tree: 1}, Answer{Is: true}) // no Data is a leaf of no bytes
	w.takes(1, 1, 1).joins(1, 32, n).had(1, "", 0, true).same("Queue").quiet()
}

// P21.3: every call of a tree that is not there.
func TestNoTree(t *testing.T) {
	w := treeWorld(t, 2)
	for _, id := range append(oddIds(), 3, 63, 64) {
		for _, c := range append(somethingOf(), Call{Op: Freeze}, Call{Op: Delete}) {
			c.Tree = id
			switch c.Op {
			case Create, List, Tick, Flush, Compact:
				continue
			case Leased:
				a := w.do(c)
				if a.E != api.OK != (id < 1 || id > 64) {
					t.Fatal(id, short(a))
				}
			case Release:
				w.do(c)
			default:
				w.fails(c, api.ErrNoTree)
			}
		}
	}
	w.same("none").quiet()
}

// like for Release of no tree: the lease's error.
func TestReleaseNone(t *testing.T) {
	w := treeWorld(t, 1)
	for _, x := range []struct {
		id   int
		want api.Errno
	}{{0, api.ErrNoTree}, {65, api.ErrNoTree}, {-1, api.ErrNoTree}, {1, api.ErrLease}, {2, api.ErrLease}, {64, api.ErrLease}} {
		if a := w.s.Do(Call{Op: Release, Tree: x.id, A: 0, B: 0}); !sameAnswer(a, Answer{E: x.want}) {
			t.Fatal(x.id, short(a))
		}
	}
}

// P21.3, P21.5: what is told of all heads, at all places, and who checks takes it.
func TestTold(t *testing.T) {
	w := treeWorld(t, 2).takes(1, 5, 1)
	for _, op := range []int{Head, Inclusion, Consistency, Range} {
		w.fails(Call{Op: op, Tree: 1, A: 0, B: 1}, api.ErrNothing).fails(Call{Op: op, Tree: 1, A: 9, B: 1}, api.ErrNothing)
	}
	w.gets(Call{Op: Waiting, Tree: 1}, Answer{}).joins(1, 32, 0)
	for size := range 12 {
		if size > 0 {
			w.waits(1, leafOf(size-1), size-1).gets(Call{Op: Waiting, Tree: 1}, Answer{N: 1}).joins(1, 1, size)
		}
		h := w.do(Call{Op: Head, Tree: 1}).Head
		for a := -1; a <= size+1; a++ {
			for b := -1; b <= size+1; b++ {
				path := w.do(Call{Op: Inclusion, Tree: 1, A: a, B: b})
				proof := w.do(Call{Op: Consistency, Tree: 1, A: a, B: b})
				w.do(Call{Op: Range, Tree: 1, A: a, B: b})
				if b == size && path.E == api.OK && hash.CheckPath(hash.Leaf([]byte(leafOf(a))), a, size, path.Hashes, h.Root) != api.OK {
					t.Fatal(a, size, "no path")
				}
				if b == size && proof.E == api.OK && hash.CheckProof(a, size, proof.Hashes, wantRoot(hashesOf(leaves(a))), h.Root) != api.OK {
					t.Fatal(a, size, "no proof")
				}
			}
		}
	}
	for _, n := range oddNums() {
		for _, op := range []int{Inclusion, Consistency, Range} {
			w.fails(Call{Op: op, Tree: 1, A: n, B: 5}, api.ErrRange).fails(Call{Op: op, Tree: 1, A: 1, B: n}, api.ErrRange).fails(Call{Op: op, Tree: 1, A: n, B: n}, api.ErrRange)
		}
	}
	w.fails(Call{Op: Head, Tree: 2}, api.ErrNothing).quiet()
}

func leaves(n int) []string {
	var out []string
	for i := range n {
		out = append(out, leafOf(i))
	}
	return out
}

// P21.3: at most 32 leaves are taken in, and told, at a time.
func TestMost(t *testing.T) {
	w := treeWorld(t, 1).queued(1, 0, 70).takes(1, 5, 1)
	for _, c := range append(oddNums(), 0, 33, 64, 1<<32+1) {
		w.fails(Call{Op: Integrate, Tree: 1, A: 5, B: 1, C: c}, api.ErrArg).fails(Call{Op: Integrate, Tree: 9, C: c}, api.ErrArg)
	}
	w.joins(1, 32, 32).joins(1, 31, 63).joins(1, 32, 70).fails(Call{Op: Integrate, Tree: 1, A: 5, B: 1, C: 32}, api.ErrNothing)
	for _, x := range [][2]int{{0, 32}, {0, 33}, {38, 70}, {37, 70}, {39, 70}, {69, 70}, {69, 71}, {70, 70}, {0, 70}} {
		w.do(Call{Op: Range, Tree: 1, A: x[0], B: x[1]})
	}
	w.same("Integrate").crash(0)
	w.do(Call{Op: Range, Tree: 1, A: 32, B: 64})
	w.quiet()
}

// P21.3: who takes, and by what clock.
func TestLeases(t *testing.T) {
	w := treeWorld(t, 3)
	for _, who := range append(oddNums(), 0, 1001, 1024, 1<<32+1) {
		w.fails(Call{Op: Take, Tree: 1, A: who}, api.ErrArg).fails(Call{Op: Take, Tree: 9, A: who}, api.ErrArg)
	}
	w.gets(Call{Op: Leased, Tree: 1}, Answer{})
	w.takes(1, 1000, 1).takes(1, 1000, 1).fails(Call{Op: Take, Tree: 1, A: 1}, api.ErrLease).takes(2, 1, 1)
	w.ticks(9).fails(Call{Op: Take, Tree: 1, A: 1}, api.ErrLease).takes(1, 1000, 1).gets(Call{Op: Leased, Tree: 2}, Answer{Lease: rows.Lease{Who: 1, Epoch: 1, Until: 10}})
	w.ticks(1).takes(2, 2, 2).fails(Call{Op: Take, Tree: 1, A: 1}, api.ErrLease)
	for _, x := range []Call{{A: 999, B: 1}, {A: 1000, B: 2}, {A: 1000, B: 0}, {A: 1, B: 1}, {A: 1000, B: 1<<32 + 1}, {A: -1000, B: -1}} {
		x.Tree, x.C = 1, 1
		x.Op = Release
		w.fails(x, api.ErrLease)
		x.Op = Integrate
		w.fails(x, api.ErrLease)
	}
	release := Call{Op: Release, Tree: 1, A: 1000, B: 1}
	w.gets(release, Answer{}).fails(release, api.ErrLease).gets(Call{Op: Leased, Tree: 1}, Answer{Lease: rows.Lease{Who: 1000, Epoch: 1, Until: 10}})
	w.takes(1, 1, 2).same("leases").crash(most - 10)
	w.takes(1, 3, 3).takes(1, 3, 3).gets(Call{Op: Leased, Tree: 1}, Answer{Lease: rows.Lease{Who: 3, Epoch: 3, Until: most}})
	w.ticks(1).fails(Call{Op: Take, Tree: 1, A: 3}, api.ErrArg).joins(1, 1, 0).ticks(8).waits(1, "x", 0).joins(1, 1, 1)
	w.ticks(1).fails(Call{Op: Integrate, Tree: 1, A: 3, B: 3, C: 1}, api.ErrLease).fails(Call{Op: Release, Tree: 1, A: 3, B: 3}, api.ErrLease)
	w.quiet()
}

// P21.4: the clock goes on, up to MaxNum.
func TestTick(t *testing.T) {
	w := newWorld(t).ticks(0).ticks(1).ticks(0).ticks(1 << 32)
	for _, more := range append(oddNums(), most-1<<32, most) {
		w.fails(Call{Op: Tick, A: more}, api.ErrArg)
		if w.s.Now() != 1<<32+1 {
			t.Fatal(w.s.Now())
		}
	}
	w.ticks(most-1<<32-1).ticks(0).fails(Call{Op: Tick, A: 1}, api.ErrArg).fails(Call{Op: Tick, A: most}, api.ErrArg).fails(Call{Op: Tick, A: math.MaxInt}, api.ErrArg)
	w.same("Tick").crash(3)
	w.ticks(most - 3).d.Cut(0)
	w.d.Append("a", nil)
	w.gets(Call{Op: Tick}, Answer{N: most})
	w.quiet()
}

// P21.4: Flush and Compact are lsm's, and turn no answer.
func TestFlushCompact(t *testing.T) {
	w := newWorld(t).fails(Call{Op: Flush}, api.ErrNothing).fails(Call{Op: Compact}, api.ErrNothing).makes(1).takes(1, 5, 1)
	for i := range 4 {
		w.fails(Call{Op: Compact}, api.ErrNothing).queued(1, 3*i, 3*i+3).joins(1, 2, 2*i+2)
		w.gets(Call{Op: Flush}, Answer{}).fails(Call{Op: Flush}, api.ErrNothing).same("Flush")
	}
	w.gets(Call{Op: Compact}, Answer{}).fails(Call{Op: Compact}, api.ErrNothing).same("Compact")
	w.core(func(c *core) {
		if v := c.engine.Version(); len(v.Tables) != 1 || v.Tables[0].Level != 1 {
			t.Fatal(v)
		}
	})
	w.crash(3)
	w.d.Cut(0)
	w.d.Append("a", nil)
	w.fails(Call{Op: Flush}, api.ErrPower).fails(Call{Op: Compact}, api.ErrPower).fails(Call{Op: Queue, Tree: 1}, api.ErrPower)
	w.had(1, leafOf(0), 0, true).gets(Call{Op: Waiting, Tree: 1}, Answer{N: 4}).quiet()
}

// turningOf are calls at tree 1 that all write, but for the last three.
func turningOf() []Call {
	return []Call{
		{Op: Create, A: 3, Name: "b", Key: keyOf(2)},
		{Op: Freeze, Tree: 1},
		{Op: Delete, Tree: 1},
		{Op: Quota, Tree: 1, A: 9},
		{Op: Queue, Tree: 1, Data: []byte("new")},
		{Op: Queue, Tree: 1, Data: []byte("newer")},
		{Op: Queue, Tree: 2, Data: []byte("new")},
		{Op: Take, Tree: 1, A: 5},
		{Op: Take, Tree: 2, A: 5},
		{Op: Integrate, Tree: 1, A: 5, B: 1, C: 1},
		{Op: Release, Tree: 1, A: 5, B: 1},
		{Op: Queue, Tree: 1, Data: []byte(leafOf(2))},
		{Op: Head, Tree: 1},
		{Op: Tick, A: 1},
	}
}

// P21.2: any two that go on at once, in any order of their steps: who is in conflict asks again.
func TestTwo(t *testing.T) {
	asked := 0
	for _, x := range turningOf() {
		for _, y := range turningOf() {
			for picks := range 8 {
				w := bigWorld(t).makes(2)
				pair := []*both{w.start(x), w.start(y)}
				for i := range 3 {
					pair[picks>>i&1].step()
				}
				for _, b := range pair {
					if _, n := b.rest(); n > 2 {
						asked++
					}
				}
				w.same(short(x) + short(y)).quiet()
			}
		}
	}
	if asked < 100 {
		t.Fatal(asked)
	}
}

// P21.2: what hangs on the clock is Aborted where that went on meanwhile, though nothing else did; the others are not.
func TestTickMeanwhile(t *testing.T) {
	for _, c := range turningOf() {
		for _, more := range []int{0, 1, 5, 10, 1 << 30} {
			w := bigWorld(t)
			if c.Tree == 2 {
				w.makes(2)
			}
			b := w.start(c)
			if _, done := b.step(); done {
				continue
			}
			w.ticks(more)
			ops := w.d.Ops()
			_, done := b.step()
			if hangs := c.Op == Take || c.Op == Integrate || c.Op == Release; done == (hangs && more > 0) || done == (ops == w.d.Ops()) {
				t.Fatal(short(c), more, done)
			}
			a, n := b.rest()
			switch {
			case c.Op == Take && a.Lease.Until != w.s.Now()+10:
				t.Fatal(short(a))
			case c.Op == Integrate && more < 9 && a.Head.Tick != w.s.Now():
				t.Fatal(short(a))
			case (c.Op == Integrate || c.Op == Release) && more > 9 && (a.E != api.ErrLease || n != 1):
				t.Fatal(short(a), n)
			}
			w.same(short(c)).quiet()
		}
	}
}

// A clock that went on, and is what it was again, is not another one. (It never falls, so Tick of 0 is all there is.)
func TestTicksOfNothing(t *testing.T) {
	w := bigWorld(t)
	b := w.start(Call{Op: Release, Tree: 1, A: 5, B: 1})
	b.step()
	w.ticks(0).ticks(0).fails(Call{Op: Tick, A: -1}, api.ErrArg)
	if _, n := b.rest(); n != 1 {
		t.Fatal(n)
	}
	w.quiet()
}

// P21.2: eight times it asks again; the ninth time is ErrConflict, and nothing is turned.
func TestRetries(t *testing.T) {
	disturb := map[string]func(w *world, n int){
		"conflict": func(w *world, n int) {
			w.gets(Call{Op: Take, Tree: 1, A: 5}, Answer{Lease: rows.Lease{Who: 5, Epoch: 1, Until: w.m.clock + 10}})
		},
		"clock": func(w *world, n int) { w.ticks(1) },
	}
	disturb["either"] = func(w *world, n int) { disturb[[]string{"clock", "conflict"}[n%2]](w, n) }
	disturb["both"] = func(w *world, n int) {
		disturb["clock"](w, n)
		disturb["conflict"](w, n)
	}
	for name, disturbs := range disturb {
		for vain := range 12 {
			w := bigWorld(t)
			b := w.start(Call{Op: Take, Tree: 1, A: 5})
			n := 0
			var a Answer
			for done := false; !done; {
				if n%2 == 1 && n/2 < vain {
					disturbs(w, n/2)
				}
				a, done = b.step()
				n++
			}
			switch {
			case vain <= 8 && (a.E != api.OK || n != 2*vain+2):
				t.Fatal(name, vain, short(a), n)
			case vain > 8 && (!sameAnswer(a, Answer{E: api.ErrConflict}) || n != 18):
				t.Fatal(name, vain, short(a), n)
			}
			b.step()
			w.same(name).takes(1, 5, 1).quiet()
		}
	}
}

// P21.2: the ninth time is counted by each call on its own, of whatever it is in vain for.
func TestRetriesOfAll(t *testing.T) {
	for _, c := range turningOf() {
		w := bigWorld(t).makes(2).queued(2, 0, 1).takes(2, 5, 1)
		if steps(c.Op) == 1 || c.Op == Queue && string(c.Data) == leafOf(2) {
			continue
		}
		b, other := w.start(c), w.start(c)
		other.step()
		for n := range 9 {
			b.step()
			k := map[int]int{Create: 0, Queue: 1, Take: 7, Integrate: 7, Release: 7}[c.Op] // a table that it writes
			id := c.Tree
			w.raw(at(id, k), w.stored()[at(id, k)])
			for _, r := range []string{"trees", row("tree", id), row("count", id), row("lease", id)} {
				w.m.newest[r] = w.m.seq
			}
			a, done := b.step()
			if done != (n == 8) || done && a.E != api.ErrConflict {
				t.Fatal(short(c), n, short(a))
			}
		}
		if a, n := other.rest(); a.E != api.OK || n != 3 {
			t.Fatal(short(c), short(a), n)
		}
		w.same(short(c)).quiet()
	}
}

// P21.2: any other error of the Commit is the answer.
func TestPowerGoes(t *testing.T) {
	for _, c := range turningOf() {
		w := bigWorld(t).makes(2)
		b := w.start(c)
		if _, done := b.step(); done {
			continue
		}
		w.d.Cut(0)
		if a, n := b.rest(); n != 1 || !sameAnswer(a, Answer{E: api.ErrPower}) || !w.d.Off() {
			t.Fatal(short(c), short(a), n)
		}
		b.step()
		if a, n := w.start(c).rest(); n != 2 || a.E != api.ErrPower { // it asks, power or not
			t.Fatal(short(c), short(a), n)
		}
		w.do(Call{Op: List})
		w.crash(0)
		w.do(c)
		w.quiet()
	}
}

// Where an operation ends in an error, what it wrote ahead of that is Aborted, in the step of asking.
func TestAborted(t *testing.T) {
	for _, x := range []struct {
		row, value string
		call       Call
	}{
		{at(1, 1), nums(most, 2), queueOf(1, "new")}, // no leaf may be behind this one
		{at(1, 6), headBytes(rows.Head{Size: most, Root: sum(), Sig: sum(), Nodes: []string{sum()}}), Call{Op: Integrate, Tree: 1, A: 5, B: 1, C: 2}},
		{at(1, 6), headBytes(rows.Head{Size: 1<<30 - 2, Root: sum(), Sig: sum(), Nodes: slices.Repeat([]string{sum()}, 29)}), Call{Op: Integrate, Tree: 1, A: 5, B: 1, C: 1}},
	} {
		w := bigWorld(t).raw(x.row, x.value)
		ops, before := w.d.Ops(), w.stored()
		if a, done := w.s.Start(x.call).Step(); !done || !sameAnswer(a, Answer{E: api.ErrArg}) {
			t.Fatal(short(x), short(a), done)
		}
		if ops != w.d.Ops() || !maps.Equal(before, w.stored()) {
			t.Fatal(short(x), "something is written")
		}
		w.quiet()
	}
}

// DOC's example 10: a disk without room.
func TestNoRoom(t *testing.T) {
	w := bigWorld(t)
	d, f := disk.Load(w.roomOf(100), w.d.Dump())
	if f != api.OK {
		t.Fatal(f)
	}
	w.d, w.m.tight = d, true
	w.opens(0)
	long := queueOf(1, strings.Repeat("l", 500))
	before := w.stored()
	if a, n := w.start(long).rest(); n != 2 || !sameAnswer(a, Answer{E: api.ErrNoSpace}) {
		t.Fatal(short(a), n)
	}
	w.fails(Call{Op: Flush}, api.ErrNoSpace)
	if !maps.Equal(before, w.stored()) {
		t.Fatal("it has turned something")
	}
	w.fails(queueOf(1, strings.Repeat("m", 512)), api.ErrNoSpace).fails(queueOf(1, strings.Repeat("m", 513)), api.ErrArg)
	w.gets(Call{Op: Freeze, Tree: 1}, Answer{}).fails(long, api.ErrFrozen).same("ErrNoSpace").crash(5)
	w.quiet()
}

// roomOf is what a disk has to have, to have that much free.
func (w *world) roomOf(free int) int { return room - w.d.Free() + free }

// Where one is in conflict, and there is no room as well, the conflict is told, and asked again.
func TestConflictAheadOfRoom(t *testing.T) {
	w := bigWorld(t)
	b := w.start(Call{Op: Quota, Tree: 1, A: 9})
	b.step()
	w.gets(Call{Op: Quota, Tree: 1, A: 8}, Answer{})
	w.d.Cut(0)
	w.d.Append("a", nil)
	if a, done := b.step(); done {
		t.Fatal(short(a))
	}
	if a, n := b.rest(); a.E != api.ErrPower || n != 2 {
		t.Fatal(short(a), n)
	}
}

// P21.2: Begin's error: 16 other Seqs are pinned by calls that have asked.
func TestPins(t *testing.T) {
	w := treeWorld(t, 2)
	var open []*both
	for n := range 16 {
		b := w.start(Call{Op: Quota, Tree: 2, A: n})
		b.step()
		open = append(open, b)
		w.waits(1, leafOf(n), n)
	}
	for _, c := range append(somethingOf(), queueOf(1, leafOf(0)), Call{Op: 99}, Call{Op: Head, Tree: 99}) {
		switch c.Op {
		case Tick, Flush:
			w.gets(Call{Op: Tick, A: 1}, Answer{N: w.m.clock + 1}) // no transaction
		default:
			w.fails(c, api.ErrArg)
		}
	}
	w.gets(Call{Op: Flush}, Answer{}).same("Flush").fails(Call{Op: Compact}, api.ErrNothing)
	if a, done := open[3].step(); !done || a.E != api.OK {
		t.Fatal(short(a))
	}
	w.had(1, leafOf(0), 0, false)
	waits := w.start(queueOf(1, "x")) // it is the sixteenth
	waits.step()
	w.had(1, leafOf(1), 1, false)
	waits.rest()
	w.had(1, leafOf(1), 1, false)
	for i, b := range open {
		if i == 3 {
			continue
		}
		if a, n := b.rest(); a.E != api.OK || n != 3 {
			t.Fatal(i, short(a), n)
		}
	}
	w.same("all").quiet()
}

// Of calls that are asked at one Seq there may be many.
func TestManyOfOneSeq(t *testing.T) {
	w := treeWorld(t, 2)
	var open []*both
	for n := range 40 {
		b := w.start(queueOf(1, leafOf(n)))
		b.step()
		open = append(open, b)
	}
	for _, b := range open {
		b.step()
	}
	for _, b := range open {
		if !b.m.done {
			b.rest()
		}
	}
	if a := w.do(Call{Op: Waiting, Tree: 1}); a.N != 40 {
		t.Fatal(short(a))
	}
	w.same("all").quiet()
}

// R3: what is handed in and answered is nobody else's memory.
func TestMemory(t *testing.T) {
	w := bigWorld(t)
	w.makes(2)
	data := []byte("mine")
	j := w.s.Start(Call{Op: Queue, Tree: 1, Data: data[:4:4]})
	copy(data, "####")
	j.Step()
	copy(data, "????")
	j.Step()
	copy(data, "!!!!")
	if a := w.s.Do(queueOf(1, "mine")); !a.Is || a.N != 6 {
		t.Fatal(short(a))
	}
	wide := append(make([]byte, 0, 64), "wide"...)
	w.s.Do(Call{Op: Queue, Tree: 1, Data: wide})
	if string(wide) != "wide" || !bytes.Equal(wide[:64][4:], make([]byte, 60)) {
		t.Fatalf("%q", wide[:64])
	}
	for _, c := range []Call{{Op: List}, {Op: Head, Tree: 1}, {Op: Inclusion, Tree: 1, A: 1, B: 4}, {Op: Consistency, Tree: 1, A: 3, B: 4}, {Op: Range, Tree: 1, A: 0, B: 4}, {Op: Integrate, Tree: 1, A: 5, B: 1, C: 1}} {
		j := w.s.Start(c)
		var first Answer
		for done := false; !done; {
			first, done = j.Step()
		}
		want := first.copied()
		spoil(first)
		for range 2 {
			again, _ := j.Step()
			if !sameAnswer(again, want) || first.E != api.OK {
				t.Fatal(short(c), short(again), short(want))
			}
			spoil(again)
		}
		if a := w.s.Do(c); c.Op != Integrate && !sameAnswer(a, want) {
			t.Fatal(short(c), short(a), short(want))
		}
	}
	if a := w.s.Do(Call{Op: Range, Tree: 1, A: 0, B: 5}); string(a.Leaves[4]) != leafOf(4) {
		t.Fatal(short(a))
	}
}

// spoil turns all lists of an answer, up to what they have room for.
func spoil(a Answer) {
	for i := range a.Head.Nodes[:cap(a.Head.Nodes)] {
		a.Head.Nodes[:cap(a.Head.Nodes)][i] = "spoilt"
	}
	for i := range a.Hashes[:cap(a.Hashes)] {
		a.Hashes[:cap(a.Hashes)][i] = "spoilt"
	}
	for i := range a.Trees[:cap(a.Trees)] {
		a.Trees[:cap(a.Trees)][i] = rows.Tree{Id: -1}
	}
	for _, leaf := range a.Leaves {
		for i := range leaf[:cap(leaf)] {
			leaf[:cap(leaf)][i] ^= 255
		}
	}
	for i := range a.Leaves[:cap(a.Leaves)] {
		a.Leaves[:cap(a.Leaves)][i] = []byte("spoilt")
	}
}

// A zero Call's answer, and lists that are nil.
func TestNilData(t *testing.T) {
	w := treeWorld(t, 1).fails(Call{}, api.ErrArg)
	w.gets(Call{Op: Queue, Tree: 1, Data: nil}, Answer{}).gets(Call{Op: Queue, Tree: 1, Data: []byte{}}, Answer{Is: true}).quiet()
}

// The token: whose step finds another one at the service waits for that one's end, and Now does.
func TestWaitsForToken(t *testing.T) {
	w := bigWorld(t)
	c, _ := w.s.enter()
	job := w.s.Start(Call{Op: Tick, A: 5})
	var all sync.WaitGroup
	var told, now, other int
	all.Go(func() {
		a, _ := job.Step()
		told = a.N
	})
	all.Go(func() { now = w.s.Now() })
	all.Go(func() { other = w.s.Do(queueOf(1, "x")).N })
	for range 100 {
		runtime.Gosched()
	}
	time.Sleep(20 * time.Millisecond)
	if len(w.s.free) != 0 || c.clock != 0 || c.engine.Seq() != w.m.seq || job.done {
		t.Fatal("another one is at it")
	}
	w.s.leave(c)
	all.Wait()
	if told != 5 || now != 0 && now != 5 || other != 6 || w.s.Now() != 5 {
		t.Fatal(told, now, other)
	}
}

// Behind each call, and each step, the token is there again.
func TestTokenStays(t *testing.T) {
	w := bigWorld(t)
	free := func(what string) {
		t.Helper()
		if len(w.s.free) != 1 || cap(w.s.free) != 1 {
			t.Fatal(what, len(w.s.free))
		}
	}
	free("Open")
	for _, c := range append(somethingOf(), Call{Op: 99}, Call{Op: Compact}, Call{Op: Tick, A: -1}, Call{Op: Head, Tree: 99}) {
		j := w.s.Start(c)
		free("Start")
		for range 4 {
			j.Step()
			free("Step")
		}
		w.s.Now()
		free("Now")
	}
}

// W1: clients of which each is a goroutine of its own.
func TestAtOnce(t *testing.T) {
	w := treeWorld(t, 2)
	const clients, each = 8, 30
	w.s.Do(Call{Op: Take, Tree: 2, A: 7})
	var all sync.WaitGroup
	var places [clients][each]Answer
	for i := range clients {
		all.Go(func() {
			for n := range each {
				for {
					a := w.s.Do(queueOf(1+n%2, fmt.Sprint(i, " ", n)))
					if a.E != api.ErrConflict {
						places[i][n] = a
						break
					}
				}
				w.s.Now()
				switch n % 10 {
				case 3:
					w.s.Do(Call{Op: Integrate, Tree: 2, A: 7, B: 1, C: 5})
				case 5:
					w.s.Do(Call{Op: Flush})
				case 7:
					w.s.Do(Call{Op: Compact})
				}
			}
		})
	}
	all.Wait()
	for id := 1; id <= 2; id++ {
		var seen []int
		for i := range clients {
			for n := range each {
				if n%2+1 == id {
					if a := places[i][n]; a.E != api.OK || a.Is {
						t.Fatal(short(a))
					}
					seen = append(seen, places[i][n].N)
				}
			}
		}
		slices.Sort(seen)
		for n, x := range seen {
			if n != x {
				t.Fatal(id, seen)
			}
		}
		h := w.s.Do(Call{Op: Head, Tree: id}).Head
		if a := w.s.Do(Call{Op: Waiting, Tree: id}); a.N+h.Size != len(seen) {
			t.Fatal(short(a), h.Size)
		}
	}
}

// One job that many step at once is still one call.
func TestJobAtOnce(t *testing.T) {
	w := treeWorld(t, 1)
	for n := range 40 {
		j := w.s.Start(queueOf(1, leafOf(n)))
		var all sync.WaitGroup
		for range 4 {
			all.Go(func() {
				for {
					if a, done := j.Step(); done {
						if a.E != api.OK || a.N != n || a.Is {
							t.Error(short(a))
						}
						return
					}
				}
			})
		}
		all.Wait()
	}
}

// A job stays with its service, though the disk is opened by another one.
func TestTwoServices(t *testing.T) {
	one, other := treeWorld(t, 1), treeWorld(t, 1)
	a, b := one.start(queueOf(1, "x")), other.start(queueOf(1, "y"))
	a.step()
	b.step()
	one.ticks(3)
	other.waits(1, "z", 0)
	a.rest()
	b.rest()
	one.same("one").quiet()
	other.same("other").quiet()
}

// W3: calls that name one tree turn no answer of another one's.
func TestApart(t *testing.T) {
	script := func(id int) []Call {
		var out []Call
		for n := range 20 {
			out = append(out, queueOf(id, leafOf(n)), Call{Op: Waiting, Tree: id}, Call{Op: Take, Tree: id, A: 5}, Call{Op: Leased, Tree: id})
			if n%4 == 3 {
				out = append(out, Call{Op: Integrate, Tree: id, A: 5, B: 1, C: 3}, Call{Op: Head, Tree: id}, Call{Op: Inclusion, Tree: id, A: n / 2, B: n/2 + 1}, Call{Op: Range, Tree: id, A: 0, B: n / 2})
			}
		}
		return append(out, Call{Op: Freeze, Tree: id}, queueOf(id, "late"), Call{Op: Release, Tree: id, A: 5, B: 1}, Call{Op: Delete, Tree: id}, Call{Op: Head, Tree: id})
	}
	alone := treeWorld(t, 3)
	var want []Answer
	for _, c := range script(2) {
		want = append(want, alone.do(c))
	}
	r := rand.New(rand.NewPCG(21, 3))
	for range 10 {
		w := treeWorld(t, 3)
		mine, others := script(2), slices.Concat(script(1), script(3))
		var open *both
		for i := 0; i < len(mine); {
			if len(others) > 0 && r.IntN(3) > 0 {
				b := w.start(others[0])
				b.rest()
				others = others[1:]
				continue
			}
			if open == nil {
				open = w.start(mine[i])
			}
			if a, done := open.step(); done {
				if open.m.vain > 0 || !sameAnswer(a, want[i]) {
					t.Fatal(short(mine[i]), short(a), short(want[i]))
				}
				open = nil
				i++
			}
		}
		w.same("all").quiet()
	}
}

// W5: once a lease's term is over, one sequencer takes all in that waits.
func TestGoesOn(t *testing.T) {
	w := treeWorld(t, 1).queued(1, 0, 100).takes(1, 5, 1).joins(1, 32, 32)
	w.ticks(9).fails(Call{Op: Take, Tree: 1, A: 6}, api.ErrLease).ticks(1)
	w.takes(1, 6, 2)
	calls := 0
	for w.do(Call{Op: Waiting, Tree: 1}).N > 0 {
		calls++
		if a := w.do(Call{Op: Integrate, Tree: 1, A: 6, B: 2, C: 32}); a.E != api.OK {
			t.Fatal(short(a))
		}
	}
	if a := w.do(Call{Op: Head, Tree: 1}); calls != 3 || a.Head.Size != 100 || a.Head.Epoch != 2 {
		t.Fatal(calls, short(a))
	}
	w.fails(Call{Op: Integrate, Tree: 1, A: 6, B: 2, C: 32}, api.ErrNothing).fails(Call{Op: Integrate, Tree: 1, A: 5, B: 1, C: 32}, api.ErrLease)
	w.same("all").quiet()
}

// scriptOf is what a client does, with each operation in it.
func scriptOf() []Call {
	l := []Call{{Op: Create, A: 20, Name: "n", Key: keyOf(1)}, {Op: Create, A: 8, Name: "m", Key: keyOf(2)}, {Op: Take, Tree: 1, A: 5}, {Op: Take, Tree: 2, A: 6}}
	for n := range 4 {
		for i := range 3 {
			l = append(l, queueOf(1, leafOf(3*n+i)+strings.Repeat("l", n*160)), queueOf(2, leafOf(3*n+i)))
		}
		l = append(l, Call{Op: Integrate, Tree: 1, A: 5, B: 1, C: 2 + n}, Call{Op: Flush}, Call{Op: Compact}, Call{Op: Tick, A: 1})
	}
	l = append(l, Call{Op: Integrate, Tree: 2, A: 6, B: 1, C: 32}, Call{Op: Freeze, Tree: 1}, Call{Op: Release, Tree: 1, A: 5, B: 1}, Call{Op: Quota, Tree: 2, A: 50}, Call{Op: Delete, Tree: 1})
	return append(l, Call{Op: Flush}, Call{Op: List}, Call{Op: Queue, Tree: 2, Data: []byte("last")})
}

// picksOf are what a crash keeps of each file.
func picksOf(how int) []int {
	var out []int
	for i := range 12 {
		out = append(out, []int{0, -1, i, how * (i + 7), math.MaxInt - how}[how%5])
	}
	return out
}

// W2, P21.5: the power goes at any raw write of a client's calls: what was answered OK is there, the one that was writing wholly or not at all.
func TestCuts(t *testing.T) {
	t.Parallel()
	whole := newWorld(t)
	done := map[int]int{}
	for _, c := range scriptOf() {
		if a := whole.do(c); a.E == api.OK {
			done[c.Op]++
		}
	}
	all := whole.d.Ops()
	if all < 100 || done[Flush] != 5 || done[Compact] != 1 || done[Integrate] != 5 {
		t.Fatal(all, done)
	}
	for at := range all {
		for how := range 5 {
			w := newWorld(t)
			w.d.Cut(at)
			for _, c := range scriptOf() {
				w.do(c)
				if w.d.Off() {
					break
				}
			}
			if !w.d.Off() {
				t.Fatal(at, "no cut")
			}
			w.do(Call{Op: List})
			w.do(queueOf(1, "without power"))
			w.crash(4, picksOf(how)...)
			w.do(Call{Op: List})
			for id := 1; id <= len(w.m.logs); id++ {
				w.do(queueOf(id, "behind it"))
				w.do(Call{Op: Head, Tree: id})
				w.do(Call{Op: Take, Tree: id, A: 9})
			}
			w.same("all").crash(9)
			w.quiet()
		}
	}
}

// W2: the power goes again and again, also while the disk is opened.
func TestCutsOfOpening(t *testing.T) {
	t.Parallel()
	for at := range 60 {
		w := newWorld(t)
		w.d.Cut(5 + 7*at%100)
		for _, c := range scriptOf() {
			w.do(c)
		}
		for n := range 4 {
			w.d.Crash(picksOf(at + n))
			w.d.Cut(n * at % 3)
			s, f := Open(w.d, 0)
			if (s == nil) != (f != api.OK) || f != api.OK && f != api.ErrPower {
				t.Fatal(at, f)
			}
		}
		w.crash(2, picksOf(at)...)
		w.do(Call{Op: Create, Name: "n", Key: keyOf(3)})
		w.same("all").quiet()
	}
}

// DOC's example 3: the power goes between a batch's Append and its Sync: all of it is there, or nothing.
func TestBetweenAppendAndSync(t *testing.T) {
	seen := map[bool]int{}
	for keep := range 200 {
		w := treeWorld(t, 1).queued(1, 0, 1)
		w.d.Cut(1)
		if a := w.do(queueOf(1, "x")); a.E != api.ErrPower {
			t.Fatal(short(a))
		}
		w.crash(0, keep)
		seen[len(w.m.logs[0].all) == 2]++
	}
	if seen[true] == 0 || seen[false] == 0 {
		t.Fatal(seen)
	}
}

// The clock is not kept by the disk; all else is.
func TestOpenedAgain(t *testing.T) {
	w := bigWorld(t).ticks(7)
	w.same("all").opens(3).same("opened again")
	w.takes(1, 5, 1).ticks(9).opens(0).takes(1, 5, 1)
	w.quiet()
}

// A stage holds a world of trees and calls that go on in it at once, and does as bytes say.
type stage struct {
	*world
	seed []byte
	open []*both
}

func (s *stage) next() int {
	if len(s.seed) == 0 {
		return 0
	}
	x := s.seed[0]
	s.seed = s.seed[1:]
	return int(x)
}

func (s *stage) id() int {
	x := s.next()
	if odd := oddIds(); x > 247 {
		return odd[x%len(odd)]
	}
	return max(1, x%5-1) // few trees, so that they meet
}

// size is around a tree's, or none.
func (s *stage) size(id int) int {
	x := s.next()
	if odd := oddNums(); x > 245 {
		return odd[x%len(odd)]
	}
	size := 0
	if id >= 1 && id <= len(s.m.logs) {
		size = s.m.logs[id-1].in()
	}
	return size*(x%16)/13 + x%3 - 1
}

// leaf is one of some; few of them have too many bytes.
func (s *stage) leaf() string {
	x := s.next()
	if x > 250 {
		return strings.Repeat("l", 508+x-250)
	}
	return leafOf(x % 100)
}

// lease is what somebody believes to have.
func (s *stage) lease(id int) rows.Lease {
	if x := s.next(); x < 30 || id < 1 || id > len(s.m.logs) {
		return rows.Lease{Who: x % 4, Epoch: x / 4 % 4}
	}
	return s.m.logs[id-1].lease
}

// call is some call.
func (s *stage) call() Call {
	op, id := s.next(), s.id()
	c := Call{Op: op % 18, Tree: id}
	l := s.lease(id)
	switch {
	case op < 100:
		return queueOf(id, s.leaf())
	case op < 125:
		return Call{Op: Integrate, Tree: id, A: l.Who, B: l.Epoch, C: s.next() % 34}
	case op < 155:
		return Call{Op: Take, Tree: id, A: s.next() % 5}
	}
	switch c.Op {
	case Create:
		c.Name, c.Key, c.A = strings.Repeat("n", s.next()%102), strings.Repeat("k", 32+s.next()%40/39), s.next()*4
	case Quota:
		if c.A = s.next() * 4; c.A < 200 {
			c.A %= 23
		}
	case Freeze, Delete:
		if s.next() < 235 { // few are lost
			c.Op = Waiting
		}
	case Inclusion, Consistency, Range:
		c.A, c.B = s.size(id), s.size(id)
	case Release:
		c.A, c.B = l.Who, l.Epoch
	case Tick:
		c.A = s.next() % 4
	case 0:
		c.Op = []int{0, 18, 19, -1}[s.next()%4]
	}
	return c
}

// step starts a call, does a step of one, or lets the power go.
func (s *stage) step() {
	s.Helper()
	x := s.next()
	if len(s.open) == 0 || x < 40 && len(s.open) < 8 {
		s.open = append(s.open, s.start(s.call()))
		return
	}
	switch {
	case x < 250:
		at := x % len(s.open)
		if _, done := s.open[at].step(); done {
			s.open = slices.Delete(s.open, at, at+1)
		}
	case x < 252:
		s.d.Cut(s.next() % 8)
	default:
		s.d.Cut(math.MaxInt)
		s.crash(s.m.clock+s.next()%3, s.next(), s.next(), s.next())
		s.open = nil
	}
	if s.d.Off() && s.next() < 128 {
		s.crash(s.next()%20, s.next(), s.next(), s.next())
		s.open = nil
	}
}

func walk(t *testing.T, seed []byte) {
	t.Helper()
	s := &stage{world: treeWorld(t, 3), seed: seed}
	for len(s.seed) > 0 {
		s.step()
	}
	for _, b := range s.open {
		b.rest()
	}
	if s.d.Off() {
		s.crash(0)
	}
	s.same("all")
	for _, l := range s.m.logs {
		s.heads(l)
	}
	s.quiet()
}

// heads fails, unless a tree's heads grow, and those of one size have one epoch.
func (s *stage) heads(l *log) {
	s.Helper()
	for i, h := range l.heads[min(1, len(l.heads)):] {
		was := l.heads[i]
		if h.Size < was.Size || h.Epoch < was.Epoch || h.Size == was.Size && h.Epoch != was.Epoch {
			s.Fatal(was, h)
		}
	}
}

func TestWalk(t *testing.T) {
	t.Parallel()
	r := rand.New(rand.NewPCG(21, 1))
	for range 150 {
		seed := make([]byte, 1500)
		for i := range seed {
			seed[i] = byte(r.Uint32())
		}
		walk(t, seed)
		if t.Failed() {
			t.Fatalf("% x", seed)
		}
	}
}

func FuzzLogs(f *testing.F) {
	f.Add([]byte(nil))
	for n := range 32 {
		f.Add([]byte{0, byte(8 * n), 0, 200, byte(n), 0, 0, 1, 0, 2, 3, 1, 130, 0, 200, 1, 120, 0, 200, 9, 50, 51, 50, 51, 52})
	}
	f.Fuzz(func(t *testing.T, b []byte) { walk(t, b[:min(len(b), 1000)]) })
}
