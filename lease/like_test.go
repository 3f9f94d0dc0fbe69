package lease

import (
	"encoding/binary"
	"fmt"
	"maps"
	"math"
	"slices"
	"strconv"
	"strings"
	"testing"

	"sawyer/api"
	"sawyer/disk"
	"sawyer/lsm"
	"sawyer/rows"
	"sawyer/txn"
)

const (
	most = 1 << 40 // MaxNum
	room = 1 << 30
)

// at is the key of a tree's table.
func at(id, table int) string {
	return string(append(binary.BigEndian.AppendUint64(nil, uint64(id)), byte(table)))
}

// nums are numbers as bytes.
func nums(l ...int) string {
	var b []byte
	for _, n := range l {
		b = binary.AppendUvarint(b, uint64(n))
	}
	return string(b)
}

func leaseBytes(l rows.Lease) string { return nums(l.Who, l.Epoch, l.Until) }

// treeBytes are those of some tree of that number and state.
func treeBytes(id, state int) string {
	return nums(id, state, 7) + "\x04name\x20" + strings.Repeat("k", 32)
}

// readLease reads bytes, and asks nothing of what package rows lays.
func readLease(b string) (rows.Lease, bool) {
	var n [3]int
	rest := []byte(b)
	for i := range n {
		x, used := binary.Uvarint(rest)
		if used <= 0 || x > most {
			return rows.Lease{}, false
		}
		n[i], rest = int(x), rest[used:]
	}
	l := rows.Lease{Who: n[0], Epoch: n[1], Until: n[2]}
	if leaseBytes(l) != b {
		return rows.Lease{}, false
	}
	return l, true
}

// store is an engine by chapter 14's words: what is committed, and by which number each key was written last.
type store struct {
	rows   map[string]string
	newest map[string]int
	seq    int
}

// like is a transaction by the chapters' words.
type like struct {
	of            *store
	down          api.Errno // what is answered by one that is none, or has ended
	seq           int
	rows          map[string]string // as it sees them
	wrote, guards map[string]bool
}

func (s *store) begin() *like {
	return &like{of: s, seq: s.seq, rows: maps.Clone(s.rows), wrote: map[string]bool{}, guards: map[string]bool{}}
}

func (m *like) get(key string) (string, api.Errno) {
	if m.down != api.OK {
		return "", m.down
	}
	v, there := m.rows[key]
	if !there {
		return "", api.ErrNone
	}
	return v, api.OK
}

func (m *like) put(key, value string) api.Errno {
	switch {
	case m.down != api.OK:
		return m.down
	case len(value) > 1024 || !m.wrote[key] && len(m.wrote) == 256:
		return api.ErrArg
	}
	m.rows[key], m.wrote[key] = value, true
	return api.OK
}

func (m *like) guard(key string) api.Errno {
	switch {
	case m.down != api.OK:
		return m.down
	case !m.guards[key] && len(m.guards) == 256:
		return api.ErrArg
	}
	m.guards[key] = true
	return api.OK
}

func (m *like) commit() (int, api.Errno) {
	if m.down != api.OK {
		return 0, m.down
	}
	m.down = api.ErrDone
	if len(m.wrote) == 0 {
		return m.seq, api.OK
	}
	for _, keys := range []map[string]bool{m.wrote, m.guards} {
		for k := range keys {
			if m.of.newest[k] > m.seq {
				return 0, api.ErrConflict
			}
		}
	}
	m.of.seq++
	for k := range m.wrote {
		m.of.rows[k], m.of.newest[k] = m.rows[k], m.of.seq
	}
	return m.of.seq, api.OK
}

// lease is rows.GetLease's.
func (m *like) lease(id int) (rows.Lease, api.Errno) {
	if id < 1 || id > 64 {
		return rows.Lease{}, api.ErrNoTree
	}
	b, f := m.get(at(id, 7))
	if f == api.ErrNone {
		return rows.Lease{}, api.OK
	}
	if f != api.OK {
		return rows.Lease{}, f
	}
	l, ok := readLease(b)
	if !ok {
		return rows.Lease{}, api.ErrCorrupt
	}
	return l, api.OK
}

// putLease is rows.PutLease's.
func (m *like) putLease(id int, l rows.Lease) api.Errno {
	for _, n := range []int{l.Who, l.Epoch, l.Until} {
		if n < 0 || n > most {
			return api.ErrArg
		}
	}
	return m.put(at(id, 7), leaseBytes(l))
}

// treeError is the first one that Take has of the tree.
func (m *like) treeError(id int) api.Errno {
	if id < 1 || id > 64 {
		return api.ErrNoTree
	}
	b, f := m.get(at(id, 0))
	if f == api.ErrNone {
		return api.ErrNoTree
	}
	if f != api.OK {
		return f
	}
	x, f := rows.DecodeTree([]byte(b))
	switch {
	case f != api.OK || x.Id != id:
		return api.ErrCorrupt
	case x.State == 3:
		return api.ErrNoTree
	}
	return api.OK
}

// take is P19.1.
func (m *like) take(id, who, now int) (rows.Lease, api.Errno) {
	if who < 1 || who > 1000 || now < 0 || now > 1<<40-10 {
		return rows.Lease{}, api.ErrArg
	}
	if f := m.treeError(id); f != api.OK {
		return rows.Lease{}, f
	}
	l, f := m.lease(id)
	switch {
	case f != api.OK:
		return rows.Lease{}, f
	case l.Until > now && l.Who != who:
		return rows.Lease{}, api.ErrLease
	case l.Until <= now && l.Epoch == most:
		return rows.Lease{}, api.ErrArg
	case l.Until <= now:
		l.Epoch++
	}
	l.Who, l.Until = who, now+10
	f = m.guard(at(id, 0))
	if f == api.OK {
		f = m.putLease(id, l)
	}
	if f != api.OK {
		return rows.Lease{}, f
	}
	return l, api.OK
}

// hold is P19.2.
func (m *like) hold(id, who, epoch, now int) api.Errno {
	l, f := m.lease(id)
	if f != api.OK {
		return f
	}
	if l.Who == who && l.Epoch == epoch && l.Until > now {
		return m.guard(at(id, 7))
	}
	return api.ErrLease
}

// drop is P19.3.
func (m *like) drop(id, who, epoch, now int) api.Errno {
	if f := m.hold(id, who, epoch, now); f != api.OK {
		return f
	}
	l, _ := m.lease(id)
	l.Until = now
	return m.putLease(id, l)
}

// world is an engine, and beside it the store of which the same is asked.
type world struct {
	*testing.T
	d *disk.Disk
	e *lsm.Engine
	s *store
}

func newWorld(t *testing.T) *world {
	t.Helper()
	d, f := disk.New(room)
	if f != api.OK {
		t.Fatal(f)
	}
	w := &world{t, d, nil, &store{rows: map[string]string{}, newest: map[string]int{}}}
	return w.open()
}

// treeWorld has some trees, each with a lease: of who 5, by epoch 3, until 20.
func treeWorld(t *testing.T, ids ...int) *world {
	t.Helper()
	w := newWorld(t)
	b := w.begin()
	for _, id := range ids {
		b.raw(at(id, 0), treeBytes(id, 1)).raw(at(id, 7), nums(5, 3, 20))
	}
	b.commits(api.OK)
	return w
}

func (w *world) open() *world {
	w.Helper()
	e, f := lsm.Open(w.d)
	if f != api.OK {
		w.Fatal(f)
	}
	w.e = e
	return w
}

// crash opens the disk again: what was not sure is gone.
func (w *world) crash() {
	w.Helper()
	if f := w.d.Crash(nil); f != api.OK {
		w.Fatal(f)
	}
	w.open()
}

// both is a transaction, and beside it the model of which the same is asked.
type both struct {
	*world
	x *txn.Txn
	m *like
}

func (w *world) begin() *both {
	w.Helper()
	x, f := txn.Begin(w.e)
	if f != api.OK {
		w.Fatal(f)
	}
	b := &both{w, x, w.s.begin()}
	b.same("Begin", "")
	return b
}

// put puts any bytes as a key's value.
func (b *both) put(key, value string) api.Errno {
	b.Helper()
	want := b.m.put(key, value)
	if f := b.x.Put([]byte(key), []byte(value)); f != want {
		b.Fatalf("Put: %d, not %d", f, want)
	}
	return want
}

func (b *both) guard(key string) api.Errno {
	b.Helper()
	want := b.m.guard(key)
	if f := b.x.Guard([]byte(key)); f != want {
		b.Fatalf("Guard: %d, not %d", f, want)
	}
	return want
}

// raw is put where there is room, rawGuard guard.
func (b *both) raw(key, value string) *both {
	b.Helper()
	return b.is(b.put(key, value), api.OK)
}

func (b *both) rawGuard(key string) *both {
	b.Helper()
	return b.is(b.guard(key), api.OK)
}

// fill puts, or guards, other keys.
func (b *both) fill(puts, guards int) *both {
	b.Helper()
	for i := range puts {
		b.raw("other "+strconv.Itoa(i), "")
	}
	for i := range guards {
		b.rawGuard("another " + strconv.Itoa(i))
	}
	return b
}

// commits commits, and fails, unless that is answered.
func (b *both) commits(want api.Errno) {
	b.Helper()
	if f := b.commit(); f != want {
		b.Fatalf("Commit: %d, not %d", f, want)
	}
}

// commit tells by its answer what was guarded, too.
func (b *both) commit() api.Errno {
	b.Helper()
	want, g := b.m.commit()
	if n, f := b.x.Commit(); n != want || f != g {
		b.Fatalf("Commit: %d %d, not %d %d", n, f, want, g)
	}
	return g
}

func (b *both) abort() {
	b.Helper()
	if f := b.x.Abort(); f != api.OK {
		b.Fatal(f)
	}
	b.m.down = api.ErrDone
}

// same fails, unless the transaction's rows, up to a key, are the model's.
func (b *both) same(what, to string) {
	b.Helper()
	if b.m.down != api.OK {
		return
	}
	got, want := map[string]string{}, map[string]string{}
	for _, r := range b.x.Scan(nil, []byte(to)) {
		got[string(r.Key)] = string(r.Value)
	}
	for k, v := range b.m.rows {
		if to == "" || k < to {
			want[k] = v
		}
	}
	if !maps.Equal(got, want) {
		b.Fatalf("behind %s: %.400q, not %.400q", what, got, want)
	}
}

// did fails, unless an error is as asked for, and so are the trees' rows, all of which have keys below 1.
func (b *both) did(what string, f, want api.Errno) api.Errno {
	b.Helper()
	if f != want {
		b.Fatalf("%s: %d, not %d", what, f, want)
	}
	b.same(what, "\x01")
	return f
}

func (b *both) take(id, who, now int) (rows.Lease, api.Errno) {
	b.Helper()
	was, _ := b.m.lease(id)
	what := fmt.Sprint("Take of ", id, " by ", who, " at ", now, ", behind ", was)
	want, g := b.m.take(id, who, now)
	l, f := Take(b.x, id, who, now)
	if l != want {
		b.Fatalf("%s: %v %d, not %v %d", what, l, f, want, g)
	}
	return l, b.did(what, f, g)
}

// took fails, unless a lease of that epoch is taken.
func (b *both) took(id, who, now, epoch int) *both {
	b.Helper()
	l, f := b.take(id, who, now)
	if want := (rows.Lease{Who: who, Epoch: epoch, Until: now + 10}); f != api.OK || l != want {
		b.Fatalf("Take of %d by %d at %d: %v %d", id, who, now, l, f)
	}
	return b
}

// refused fails, unless Take answers that error alone.
func (b *both) refused(id, who, now int, want api.Errno) *both {
	b.Helper()
	if l, f := b.take(id, who, now); f != want || l != (rows.Lease{}) {
		b.Fatalf("Take of %d by %d at %d: %v %d, not %d", id, who, now, l, f, want)
	}
	return b
}

func (b *both) hold(id, who, epoch, now int) api.Errno {
	b.Helper()
	was, _ := b.m.lease(id)
	what := fmt.Sprint("Hold of ", id, " by ", who, " of epoch ", epoch, " at ", now, ", behind ", was)
	want := b.m.hold(id, who, epoch, now)
	return b.did(what, Hold(b.x, id, who, epoch, now), want)
}

func (b *both) drop(id, who, epoch, now int) api.Errno {
	b.Helper()
	was, _ := b.m.lease(id)
	what := fmt.Sprint("Drop of ", id, " by ", who, " of epoch ", epoch, " at ", now, ", behind ", was)
	want := b.m.drop(id, who, epoch, now)
	return b.did(what, Drop(b.x, id, who, epoch, now), want)
}

// is fails, unless an error is as asked for.
func (b *both) is(f, want api.Errno) *both {
	b.Helper()
	if f != want {
		b.Fatalf("%d, not %d", f, want)
	}
	return b
}

// oddIds are none that a tree may have; among them such as have the last byte, or the low bits, of one that may.
func oddIds() []int {
	return []int{0, -1, -2, -64, 65, 66, 128, 255, 256, 257, 1<<32 + 1, most, most + 1, 1<<62 + 1, math.MinInt, math.MinInt + 1, math.MaxInt}
}

// someWhos are numbers of sequencers, and others around them.
func someWhos() []int {
	return []int{1, 2, 5, 127, 128, 999, 1000, 0, -1, 1001, 1005, 1<<32 + 5, most, most + 1, math.MinInt, math.MaxInt}
}

// someNows are ticks that may be, and others around them.
func someNows() []int {
	return []int{0, 1, 9, 10, 11, 19, 20, 21, 1 << 32, most - 21, most - 20, most - 11, most - 10, most - 9, most - 1, most, most + 1,
		1<<62 + 5, math.MaxInt - 10, math.MaxInt - 9, math.MaxInt, -1, -10, -11, -most, math.MinInt, math.MinInt + 10}
}

// around are a number, and those beside it and a term away.
func around(n int) []int {
	out := []int{0, 1, most - 1, most}
	for _, x := range []int{n - 11, n - 10, n - 9, n - 1, n, n + 1, n + 9, n + 10, n + 11} {
		if x >= 0 && x <= most {
			out = append(out, x)
		}
	}
	slices.Sort(out)
	return slices.Compact(out)
}
