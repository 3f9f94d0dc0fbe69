package join

import (
	"crypto/hmac"
	"crypto/sha256"
	"encoding/binary"
	"fmt"
	"maps"
	"math"
	"math/bits"
	"reflect"
	"slices"
	"strconv"
	"strings"
	"testing"

	"sawyer/api"
	"sawyer/disk"
	"sawyer/lsm"
	"sawyer/rows"
	"sawyer/txn"
)

const (
	most     = 1 << 40 // MaxNum
	greatest = 1<<62 - 1
	room     = 1 << 30
)

// fix are numbers of eight bytes each.
func fix(l ...int) string {
	var b []byte
	for _, n := range l {
		b = binary.BigEndian.AppendUint64(b, uint64(n))
	}
	return string(b)
}

// at is the key of a tree's table, and of numbers behind it.
func at(id, table int, behind ...int) string {
	return fix(id) + string([]byte{byte(table)}) + fix(behind...)
}

// nums are numbers as bytes.
func nums(l ...int) string {
	var b []byte
	for _, n := range l {
		b = binary.AppendUvarint(b, uint64(n))
	}
	return string(b)
}

// readNums reads just so many numbers, none above the greatest.
func readNums(b string, count, greatest int) ([]int, bool) {
	var out []int
	rest := []byte(b)
	for range count {
		x, used := binary.Uvarint(rest)
		if used <= 0 || x > uint64(greatest) {
			return nil, false
		}
		out, rest = append(out, int(x)), rest[used:]
	}
	return out, nums(out...) == b
}

func sum(l ...string) string {
	s := sha256.Sum256([]byte(strings.Join(l, "")))
	return string(s[:])
}

func leafHash(leaf string) string { return sum("\x00", leaf) }

func nodeHash(l, r string) string { return sum("\x01", l, r) }

// cut is the greatest power of two that is less than n.
func cut(n int) int {
	k := 1
	for 2*k < n {
		k *= 2
	}
	return k
}

// A part are the leaves from one on, below another one.
type part struct{ lo, hi int }

// pathParts are those of which a path has the roots.
func pathParts(p part, index int) []part {
	if p.hi-p.lo == 1 {
		return nil
	}
	mid := p.lo + cut(p.hi-p.lo)
	if index < mid {
		return append(pathParts(part{p.lo, mid}, index), part{mid, p.hi})
	}
	return append(pathParts(part{mid, p.hi}, index), part{p.lo, mid})
}

// proofParts are those of which the proof of the leaves below m has the roots.
func proofParts(p part, m int, own bool) []part {
	if p.hi == m {
		if own {
			return nil
		}
		return []part{p}
	}
	mid := p.lo + cut(p.hi-p.lo)
	if m <= mid {
		return append(proofParts(part{p.lo, mid}, m, own), part{mid, p.hi})
	}
	return append(proofParts(part{mid, p.hi}, m, false), part{p.lo, mid})
}

// wantRoot is the root of leaves' hashes.
func wantRoot(l []string) string {
	switch len(l) {
	case 0:
		return sum()
	case 1:
		return l[0]
	}
	k := cut(len(l))
	return nodeHash(wantRoot(l[:k]), wantRoot(l[k:]))
}

// rootsOf are the roots of parts of leaves' hashes.
func rootsOf(l []string, parts []part) []string {
	var out []string
	for _, p := range parts {
		out = append(out, wantRoot(l[p.lo:p.hi]))
	}
	return out
}

// folded is what nodes are together, the greatest first.
func folded(nodes []string) string {
	if len(nodes) == 0 {
		return sum()
	}
	out := nodes[len(nodes)-1]
	for i := len(nodes) - 2; i >= 0; i-- {
		out = nodeHash(nodes[i], out)
	}
	return out
}

func keyOf(id int) string { return strings.Repeat(string(rune('a'+id%26)), 32) }

func treeBytes(id, state, quota int) string {
	return nums(id, state, quota) + "\x04name\x20" + keyOf(id)
}

func headBytes(h rows.Head) string {
	return nums(h.Size, h.Tick, h.Epoch) + h.Root + h.Sig + strings.Join(h.Nodes, "")
}

// withCode is a head with its code.
func withCode(id int, h rows.Head) rows.Head {
	mac := hmac.New(sha256.New, []byte(keyOf(id)))
	mac.Write([]byte(nums(id, h.Size, h.Tick, h.Epoch) + "\x20" + h.Root))
	h.Sig = string(mac.Sum(nil))
	return h
}

// madeHead is a head of leaves that nobody has: some nodes, as many as the size asks for.
func madeHead(id, size int) rows.Head {
	var nodes []string
	for i := range bits.OnesCount(uint(size)) {
		nodes = append(nodes, sum("node", strconv.Itoa(i)))
	}
	return withCode(id, rows.Head{Size: size, Root: folded(nodes), Tick: 1, Epoch: 1, Nodes: nodes})
}

func placeBytes(p Place) string {
	if p.In {
		return nums(1, p.N)
	}
	return nums(0, p.N)
}

func placeAt(id int, leaf string) string { return at(id, 4) + leafHash(leaf) }

// store is an engine by chapter 14's words: what is committed, and by which number each key was written last.
type store struct {
	rows   map[string]string
	newest map[string]int
	seq    int
}

// like is a transaction by the chapters' words.
type like struct {
	of            *store
	down          api.Errno // what is answered by one that is none, or has ended
	seq           int
	rows          map[string]string // as it sees them
	wrote, guards map[string]bool
}

func (s *store) begin() *like {
	return &like{of: s, seq: s.seq, rows: maps.Clone(s.rows), wrote: map[string]bool{}, guards: map[string]bool{}}
}

func (m *like) get(key string) (string, api.Errno) {
	if m.down != api.OK {
		return "", m.down
	}
	v, there := m.rows[key]
	if !there {
		return "", api.ErrNone
	}
	return v, api.OK
}

func (m *like) put(key, value string) api.Errno {
	switch {
	case m.down != api.OK:
		return m.down
	case len(value) > 1024 || !m.wrote[key] && len(m.wrote) == 256:
		return api.ErrArg
	}
	m.rows[key], m.wrote[key] = value, true
	return api.OK
}

func (m *like) delete(key string) api.Errno {
	f := m.put(key, "")
	if f == api.OK {
		delete(m.rows, key)
	}
	return f
}

func (m *like) guard(key string) api.Errno {
	switch {
	case m.down != api.OK:
		return m.down
	case !m.guards[key] && len(m.guards) == 256:
		return api.ErrArg
	}
	m.guards[key] = true
	return api.OK
}

func (m *like) commit() (int, api.Errno) {
	if m.down != api.OK {
		return 0, m.down
	}
	m.down = api.ErrDone
	if len(m.wrote) == 0 {
		return m.seq, api.OK
	}
	for _, keys := range []map[string]bool{m.wrote, m.guards} {
		for k := range keys {
			if m.of.newest[k] > m.seq {
				return 0, api.ErrConflict
			}
		}
	}
	m.of.seq++
	for k := range m.wrote {
		m.of.newest[k] = m.of.seq
		if v, there := m.rows[k]; there {
			m.of.rows[k] = v
		} else {
			delete(m.of.rows, k)
		}
	}
	return m.of.seq, api.OK
}

// tree is one that is there.
func (m *like) tree(id int) (rows.Tree, api.Errno) {
	if id < 1 || id > 64 {
		return rows.Tree{}, api.ErrNoTree
	}
	b, f := m.get(at(id, 0))
	if f == api.ErrNone {
		return rows.Tree{}, api.ErrNoTree
	}
	if f != api.OK {
		return rows.Tree{}, f
	}
	x, f := rows.DecodeTree([]byte(b))
	switch {
	case f != api.OK || x.Id != id:
		return rows.Tree{}, api.ErrCorrupt
	case x.State == 3:
		return rows.Tree{}, api.ErrNoTree
	}
	return x, api.OK
}

// counted is a row of so many numbers that may be; noughts, where there is none.
func (m *like) counted(id, table, count int) ([]int, api.Errno) {
	b, f := m.get(at(id, table))
	switch {
	case f == api.ErrNone:
		return make([]int, count), api.OK
	case f != api.OK:
		return nil, f
	}
	n, ok := readNums(b, count, most)
	if !ok {
		return nil, api.ErrCorrupt
	}
	return n, api.OK
}

func (m *like) putCount(id, next, pending int) api.Errno {
	if next < 0 || next > most || pending < 0 || pending > most {
		return api.ErrArg
	}
	return m.put(at(id, 1), nums(next, pending))
}

// head is a tree's head, and whether there is one.
func (m *like) head(id int) (rows.Head, bool, api.Errno) {
	b, f := m.get(at(id, 6))
	switch {
	case f == api.ErrNone:
		return rows.Head{}, false, api.OK
	case f != api.OK:
		return rows.Head{}, false, f
	}
	h, f := rows.DecodeHead([]byte(b))
	if f != api.OK {
		return rows.Head{}, false, api.ErrCorrupt
	}
	return h, true, api.OK
}

// hold is lease.Hold's.
func (m *like) hold(id, who, epoch, now int) api.Errno {
	l, f := m.counted(id, 7, 3)
	switch {
	case f != api.OK:
		return f
	case l[0] != who || l[1] != epoch || l[2] <= now:
		return api.ErrLease
	}
	return m.guard(at(id, 7))
}

// waiting are the keys of the leaves that wait, by their numbers.
func (m *like) waiting(id int) []string {
	var out []string
	for k := range m.rows {
		if len(k) == 17 && strings.HasPrefix(k, at(id, 2)) && binary.BigEndian.Uint64([]byte(k[9:])) <= most {
			out = append(out, k)
		}
	}
	slices.Sort(out)
	return out
}

// steps are done one by one; the first error ends them.
func steps(l ...func() api.Errno) api.Errno {
	for _, do := range l {
		if f := do(); f != api.OK {
			return f
		}
	}
	return api.OK
}

// queue is P20.1.
func (m *like) queue(id int, leaf string) (Place, bool, api.Errno) {
	if len(leaf) > 512 {
		return Place{}, false, api.ErrArg
	}
	x, f := m.tree(id)
	if f != api.OK {
		return Place{}, false, f
	}
	b, f := m.get(placeAt(id, leaf))
	if f == api.OK {
		n, ok := readNums(b, 2, greatest)
		if !ok || n[0] > 1 {
			return Place{}, false, api.ErrCorrupt
		}
		return Place{n[0] == 1, n[1]}, true, api.OK
	}
	if x.State == 2 {
		return Place{}, false, api.ErrFrozen
	}
	c, f := m.counted(id, 1, 2)
	switch {
	case f != api.OK:
		return Place{}, false, f
	case c[1] >= x.Quota:
		return Place{}, false, api.ErrQuota
	}
	p := Place{false, c[0]}
	f = steps(
		func() api.Errno { return m.guard(at(id, 0)) },
		func() api.Errno { return m.put(at(id, 2, p.N), leaf) },
		func() api.Errno { return m.put(placeAt(id, leaf), placeBytes(p)) },
		func() api.Errno { return m.putCount(id, c[0]+1, c[1]+1) },
	)
	if f != api.OK {
		return Place{}, false, f
	}
	return p, false, api.OK
}

// takeIn takes the leaf of a key in behind a head's.
func (m *like) takeIn(id int, h rows.Head, key string) (rows.Head, api.Errno) {
	leaf := m.rows[key]
	f := steps(
		func() api.Errno { return m.delete(key) },
		func() api.Errno { return m.put(at(id, 3, h.Size), leaf) },
		func() api.Errno { return m.put(placeAt(id, leaf), placeBytes(Place{true, h.Size})) },
	)
	if f == api.OK && h.Size >= most {
		f = api.ErrArg
	}
	if f != api.OK {
		return rows.Head{}, f
	}
	node, nodes := leafHash(leaf), h.Nodes
	for level := 0; ; level++ {
		index := h.Size >> level
		if f := m.put(at(id, 5, level, index), node); f != api.OK {
			return rows.Head{}, f
		}
		if index%2 == 0 {
			break
		}
		node, nodes = nodeHash(nodes[len(nodes)-1], node), nodes[:len(nodes)-1]
	}
	return rows.Head{Size: h.Size + 1, Nodes: slices.Concat(nodes, []string{node})}, api.OK
}

// integrate is P20.2.
func (m *like) integrate(id, who, epoch, take, now int) (rows.Head, api.Errno) {
	if take < 1 || take > 32 || now < 0 || now > most {
		return rows.Head{}, api.ErrArg
	}
	if _, f := m.tree(id); f != api.OK {
		return rows.Head{}, f
	}
	if f := m.hold(id, who, epoch, now); f != api.OK {
		return rows.Head{}, f
	}
	h, there, f := m.head(id)
	if f != api.OK {
		return rows.Head{}, f
	}
	waiting := m.waiting(id)
	if there && len(waiting) == 0 {
		return rows.Head{}, api.ErrNothing
	}
	c, f := m.counted(id, 1, 2)
	if f == api.OK {
		f = m.guard(at(id, 0))
	}
	waiting = waiting[:min(take, len(waiting))]
	for _, k := range waiting {
		if f == api.OK {
			h, f = m.takeIn(id, h, k)
		}
	}
	if f != api.OK {
		return rows.Head{}, f
	}
	h = withCode(id, rows.Head{Size: h.Size, Root: folded(h.Nodes), Tick: now, Epoch: epoch, Nodes: h.Nodes})
	if f = m.put(at(id, 6), headBytes(h)); f == api.OK {
		f = m.putCount(id, c[0], c[1]-len(waiting))
	}
	if f != api.OK {
		return rows.Head{}, f
	}
	return h, api.OK
}

// latest and those behind it are P20.3.
func (m *like) latest(id int) (rows.Head, api.Errno) {
	if _, f := m.tree(id); f != api.OK {
		return rows.Head{}, f
	}
	h, there, f := m.head(id)
	if f == api.OK && !there {
		f = api.ErrNothing
	}
	return h, f
}

func (m *like) inclusion(id, index, size int) ([]string, api.Errno) {
	h, f := m.latest(id)
	switch {
	case f != api.OK:
		return nil, f
	case size > h.Size || size < 1 || index < 0 || index >= size:
		return nil, api.ErrRange
	}
	return m.roots(id, pathParts(part{0, size}, index))
}

func (m *like) consistency(id, first, all int) ([]string, api.Errno) {
	h, f := m.latest(id)
	switch {
	case f != api.OK:
		return nil, f
	case all > h.Size || first < 1 || first > all:
		return nil, api.ErrRange
	}
	return m.roots(id, proofParts(part{0, all}, first, true))
}

// roots are made of what is kept.
func (m *like) roots(id int, parts []part) ([]string, api.Errno) {
	var out []string
	for _, p := range parts {
		var nodes []string
		for level := 40; level >= 0; level-- {
			if (p.hi-p.lo)>>level&1 == 0 {
				continue
			}
			node := m.rows[at(id, 5, level, p.lo>>level)]
			if len(node) != 32 {
				return nil, api.ErrCorrupt
			}
			nodes = append(nodes, node)
			p.lo += 1 << level
		}
		out = append(out, folded(nodes))
	}
	return out, api.OK
}

func (m *like) leaves(id, from, to int) ([]string, api.Errno) {
	h, f := m.latest(id)
	switch {
	case f != api.OK:
		return nil, f
	case from < 0 || from >= to || to > h.Size || to > from+32:
		return nil, api.ErrRange
	}
	var out []string
	for n := from; n < to; n++ {
		leaf, there := m.rows[at(id, 3, n)]
		if !there {
			return nil, api.ErrCorrupt
		}
		out = append(out, leaf)
	}
	return out, api.OK
}

func (m *like) pending(id int) (int, api.Errno) {
	if _, f := m.tree(id); f != api.OK {
		return 0, f
	}
	c, f := m.counted(id, 1, 2)
	if f != api.OK {
		return 0, f
	}
	return c[1], api.OK
}

// world is an engine, and beside it the store of which the same is asked.
type world struct {
	*testing.T
	d *disk.Disk
	e *lsm.Engine
	s *store
}

func newWorld(t *testing.T) *world {
	t.Helper()
	d, f := disk.New(room)
	if f != api.OK {
		t.Fatal(f)
	}
	w := &world{t, d, nil, &store{rows: map[string]string{}, newest: map[string]int{}}}
	return w.open()
}

// treeWorld has some trees, Active ones with a quota of 1000; each lease is who 5's, by epoch 3, until 20.
func treeWorld(t *testing.T, ids ...int) *world {
	t.Helper()
	w := newWorld(t)
	b := w.begin()
	for _, id := range ids {
		b.raw(at(id, 0), treeBytes(id, 1, 1000)).raw(at(id, 7), nums(5, 3, 20))
	}
	b.commits(api.OK)
	return w
}

func (w *world) open() *world {
	w.Helper()
	e, f := lsm.Open(w.d)
	if f != api.OK {
		w.Fatal(f)
	}
	w.e = e
	return w
}

// crash opens the disk again: what was not sure is gone.
func (w *world) crash() {
	w.Helper()
	if f := w.d.Crash(nil); f != api.OK {
		w.Fatal(f)
	}
	w.open()
}

// both is a transaction, and beside it the model of which the same is asked.
type both struct {
	*world
	x *txn.Txn
	m *like
}

func (w *world) begin() *both {
	w.Helper()
	x, f := txn.Begin(w.e)
	if f != api.OK {
		w.Fatal(f)
	}
	b := &both{w, x, w.s.begin()}
	b.same("Begin", "")
	return b
}

// put puts any bytes as a key's value.
func (b *both) put(key, value string) api.Errno {
	b.Helper()
	want := b.m.put(key, value)
	if f := b.x.Put([]byte(key), []byte(value)); f != want {
		b.Fatalf("Put: %d, not %d", f, want)
	}
	return want
}

func (b *both) delete(key string) api.Errno {
	b.Helper()
	want := b.m.delete(key)
	if f := b.x.Delete([]byte(key)); f != want {
		b.Fatalf("Delete: %d, not %d", f, want)
	}
	return want
}

func (b *both) guard(key string) api.Errno {
	b.Helper()
	want := b.m.guard(key)
	if f := b.x.Guard([]byte(key)); f != want {
		b.Fatalf("Guard: %d, not %d", f, want)
	}
	return want
}

// raw is put where there is room, rawGone delete, rawGuard guard.
func (b *both) raw(key, value string) *both {
	b.Helper()
	return b.is(b.put(key, value), api.OK)
}

func (b *both) rawGone(key string) *both {
	b.Helper()
	return b.is(b.delete(key), api.OK)
}

func (b *both) rawGuard(key string) *both {
	b.Helper()
	return b.is(b.guard(key), api.OK)
}

// fill puts, or guards, other keys.
func (b *both) fill(puts, guards int) *both {
	b.Helper()
	for i := range puts {
		b.raw("other "+strconv.Itoa(i), "")
	}
	for i := range guards {
		b.rawGuard("another " + strconv.Itoa(i))
	}
	return b
}

// commits commits, and fails, unless that is answered.
func (b *both) commits(want api.Errno) {
	b.Helper()
	if f := b.commit(); f != want {
		b.Fatalf("Commit: %d, not %d", f, want)
	}
}

// commit tells by its answer what was guarded, too.
func (b *both) commit() api.Errno {
	b.Helper()
	want, g := b.m.commit()
	if n, f := b.x.Commit(); n != want || f != g {
		b.Fatalf("Commit: %d %d, not %d %d", n, f, want, g)
	}
	return g
}

func (b *both) abort() {
	b.Helper()
	if f := b.x.Abort(); f != api.OK {
		b.Fatal(f)
	}
	b.m.down = api.ErrDone
}

// same fails, unless the transaction's rows, up to a key, are the model's.
func (b *both) same(what, to string) {
	b.Helper()
	if b.m.down != api.OK {
		return
	}
	got := b.x.Scan(nil, []byte(to))
	for _, r := range got {
		if v, there := b.m.rows[string(r.Key)]; !there || v != string(r.Value) {
			b.Fatalf("behind %s: %q is %.100q, not %.100q (%t)", what, r.Key, r.Value, v, there)
		}
	}
	count := 0
	for k := range b.m.rows {
		if to == "" || k < to {
			count++
		}
	}
	if len(got) != count {
		b.Fatalf("behind %s: %d rows, not %d", what, len(got), count)
	}
}

// did fails, unless an error is as asked for, and so are the trees' rows, all of which have keys below 1.
func (b *both) did(what string, f, want api.Errno) api.Errno {
	b.Helper()
	if f != want {
		b.Fatalf("%s: %d, not %d", what, f, want)
	}
	b.same(what, "\x01")
	return f
}

func (b *both) queue(id int, leaf string) (Place, bool, api.Errno) {
	b.Helper()
	what := fmt.Sprintf("Queue of %d, %.20q", id, leaf)
	want, wantTrue, g := b.m.queue(id, leaf)
	p, tells, f := Queue(b.x, id, []byte(leaf))
	if p != want || tells != wantTrue {
		b.Fatalf("%s: %v %t %d, not %v %t %d", what, p, tells, f, want, wantTrue, g)
	}
	return p, tells, b.did(what, f, g)
}

// waits fails, unless a leaf is queued, as the n-th.
func (b *both) waits(id int, leaf string, n int) *both {
	b.Helper()
	if p, tells, f := b.queue(id, leaf); p != (Place{false, n}) || tells || f != api.OK {
		b.Fatalf("Queue of %d, %.20q: %v %t %d, not %d", id, leaf, p, tells, f, n)
	}
	return b
}

// queued has leaves wait that are named by their numbers.
func (b *both) queued(id, from, to int) *both {
	b.Helper()
	for n := from; n < to; n++ {
		b.waits(id, leafOf(n), n)
	}
	return b
}

// leafOf is some leaf, another one for each number, of differing lengths.
func leafOf(n int) string { return strconv.Itoa(n) + strings.Repeat("+", n%7) }

// leavesOf are the hashes of the first leaves.
func leavesOf(n int) []string {
	var out []string
	for i := range n {
		out = append(out, leafHash(leafOf(i)))
	}
	return out
}

// had fails, unless a leaf is told to be there.
func (b *both) had(id int, leaf string, want Place) *both {
	b.Helper()
	if p, tells, f := b.queue(id, leaf); p != want || !tells || f != api.OK {
		b.Fatalf("Queue of %d, %.20q: %v %t %d, not %v", id, leaf, p, tells, f, want)
	}
	return b
}

// refused fails, unless Queue answers that error alone.
func (b *both) refused(id int, leaf string, want api.Errno) *both {
	b.Helper()
	if p, tells, f := b.queue(id, leaf); f != want || p != (Place{}) || tells {
		b.Fatalf("Queue of %d, %.20q: %v %t %d, not %d", id, leaf, p, tells, f, want)
	}
	return b
}

func (b *both) integrate(id, who, epoch, take, now int) (rows.Head, api.Errno) {
	b.Helper()
	what := fmt.Sprint("Integrate of ", id, " by ", who, " of epoch ", epoch, ", ", take, " at ", now)
	want, g := b.m.integrate(id, who, epoch, take, now)
	h, f := Integrate(b.x, id, who, epoch, take, now)
	if !sameHead(h, want) {
		b.Fatalf("%s: %v %d, not %v %d", what, h, f, want, g)
	}
	return h, b.did(what, f, g)
}

func sameHead(a, b rows.Head) bool {
	same := slices.Equal(a.Nodes, b.Nodes)
	a.Nodes, b.Nodes = nil, nil
	return same && reflect.DeepEqual(a, b)
}

// joins fails, unless who 5 takes so many in at 19, so that the head has that size.
func (b *both) joins(id, take, size int) *both {
	b.Helper()
	if h, f := b.integrate(id, 5, 3, take, 19); f != api.OK || h.Size != size || h.Tick != 19 || h.Epoch != 3 {
		b.Fatalf("Integrate of %d, %d: %v %d, not %d", id, take, h, f, size)
	}
	return b
}

// stays fails, unless Integrate answers that error alone.
func (b *both) stays(id, take int, want api.Errno) *both {
	b.Helper()
	if h, f := b.integrate(id, 5, 3, take, 19); f != want || !reflect.DeepEqual(h, rows.Head{}) {
		b.Fatalf("Integrate of %d, %d: %v %d, not %d", id, take, h, f, want)
	}
	return b
}

func (b *both) latest(id int) (rows.Head, api.Errno) {
	b.Helper()
	want, g := b.m.latest(id)
	h, f := Latest(b.x, id)
	if !sameHead(h, want) {
		b.Fatalf("Latest of %d: %v %d, not %v %d", id, h, f, want, g)
	}
	return h, b.did("Latest", f, g)
}

func (b *both) inclusion(id, index, size int) ([]string, api.Errno) {
	b.Helper()
	what := fmt.Sprint("Inclusion of ", id, ": ", index, " of ", size)
	want, g := b.m.inclusion(id, index, size)
	l, f := Inclusion(b.x, id, index, size)
	if !slices.Equal(l, want) {
		b.Fatalf("%s: %q %d, not %q %d", what, l, f, want, g)
	}
	return l, b.sure(what, f, g)
}

func (b *both) consistency(id, first, all int) ([]string, api.Errno) {
	b.Helper()
	what := fmt.Sprint("Consistency of ", id, ": ", first, " of ", all)
	want, g := b.m.consistency(id, first, all)
	l, f := Consistency(b.x, id, first, all)
	if !slices.Equal(l, want) {
		b.Fatalf("%s: %q %d, not %q %d", what, l, f, want, g)
	}
	return l, b.sure(what, f, g)
}

func (b *both) leaves(id, from, to int) ([]string, api.Errno) {
	b.Helper()
	what := fmt.Sprint("Leaves of ", id, " from ", from, " to ", to)
	want, g := b.m.leaves(id, from, to)
	l, f := Leaves(b.x, id, from, to)
	var got []string
	for _, leaf := range l {
		got = append(got, string(leaf))
	}
	if !slices.Equal(got, want) {
		b.Fatalf("%s: %q %d, not %q %d", what, got, f, want, g)
	}
	return got, b.sure(what, f, g)
}

func (b *both) waiting(id int) (int, api.Errno) {
	b.Helper()
	what := fmt.Sprint("Waiting of ", id)
	want, g := b.m.pending(id)
	n, f := Waiting(b.x, id)
	if n != want {
		b.Fatalf("%s: %d %d, not %d %d", what, n, f, want, g)
	}
	return n, b.sure(what, f, g)
}

// sure fails, unless an error is as asked for; who asks for many things looks at the rows once.
func (b *both) sure(what string, f, want api.Errno) api.Errno {
	b.Helper()
	if f != want {
		b.Fatalf("%s: %d, not %d", what, f, want)
	}
	return f
}

// is fails, unless an error is as asked for.
func (b *both) is(f, want api.Errno) *both {
	b.Helper()
	if f != want {
		b.Fatalf("%d, not %d", f, want)
	}
	return b
}

// answers fails, unless each call at a tree that has an error ahead of its own answers that.
func (b *both) answers(id int, want api.Errno) *both {
	b.Helper()
	b.refused(id, "leaf", want).stays(id, 1, want)
	_, f := b.latest(id)
	b.is(f, want)
	_, f = b.inclusion(id, 0, 1)
	b.is(f, want)
	_, f = b.consistency(id, 1, 1)
	b.is(f, want)
	_, f = b.leaves(id, 0, 1)
	b.is(f, want)
	_, f = b.waiting(id)
	return b.is(f, want)
}

// oddIds are none that a tree may have; among them such as have the last byte, or the low bits, of one that may.
func oddIds() []int {
	return []int{0, -1, -2, -64, 65, 66, 128, 255, 256, 257, 1<<32 + 1, most, most + 1, 1<<62 + 1, math.MinInt, math.MinInt + 1, math.MaxInt}
}

// oddNums are no sizes, no places, no ticks; among them such as have the low bits of one that is.
func oddNums() []int {
	return []int{-1, -2, -31, -32, -33, math.MinInt, math.MinInt + 1, math.MinInt + 32, math.MaxInt, math.MaxInt - 31, most + 1, 1<<62 + 1, 1<<63 - 2}
}
