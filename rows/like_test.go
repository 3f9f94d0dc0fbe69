package rows

import (
	"bytes"
	"crypto/hmac"
	"crypto/sha256"
	"encoding/binary"
	"fmt"
	"maps"
	"math"
	"slices"
	"strconv"
	"strings"
	"testing"

	"sawyer/api"
	"sawyer/disk"
	"sawyer/lsm"
	"sawyer/txn"
)

const (
	most = 1 << 40 // MaxNum
	room = 1 << 30
)

// hash is some text of 32 bytes, another one for each number.
func hash(n int) string {
	s := sha256.Sum256([]byte(strconv.Itoa(n)))
	return string(s[:])
}

func hashes(n int) []string {
	var out []string
	for i := range n {
		out = append(out, hash(1000+i))
	}
	return out
}

// ones is how many ones n has in binary.
func ones(n int) int { return strings.Count(strconv.FormatInt(int64(n), 2), "1") }

// aTree, and so on, are rows that may be.
func aTree(id int) Tree {
	return Tree{Id: id, State: id%3 + 1, Quota: id * 10, Name: strings.Repeat("n", id), Key: hash(id)}
}

func aHead(size int) Head {
	return Head{Size: size, Root: hash(size), Tick: size / 2, Epoch: size / 3, Nodes: hashes(ones(size)), Sig: hash(size + 1)}
}

func aCount(n int) Count { return Count{Next: n + 300, Pending: n} }

func aLease(n int) Lease { return Lease{Who: n, Epoch: n + 1, Until: n + 200} }

// at is the key of a tree's table.
func at(id, table int) string {
	return string(append(binary.BigEndian.AppendUint64(nil, uint64(id)), byte(table)))
}

// nums are numbers as bytes.
func nums(l ...int) string {
	var b []byte
	for _, n := range l {
		b = binary.AppendUvarint(b, uint64(n))
	}
	return string(b)
}

func text(s string) string { return nums(len(s)) + s }

func treeBytes(t Tree) string {
	return nums(t.Id, t.State, t.Quota) + text(t.Name) + text(t.Key)
}

func headBytes(h Head) string {
	return nums(h.Size, h.Tick, h.Epoch) + h.Root + h.Sig + strings.Join(h.Nodes, "")
}

func countBytes(c Count) string { return nums(c.Next, c.Pending) }

func leaseBytes(l Lease) string { return nums(l.Who, l.Epoch, l.Until) }

func numOK(l ...int) bool {
	for _, n := range l {
		if n < 0 || n > most {
			return false
		}
	}
	return true
}

func hashOK(l ...string) bool {
	for _, s := range l {
		if len(s) != 32 {
			return false
		}
	}
	return true
}

func treeOK(t Tree) bool {
	states := map[int]bool{1: true, 2: true, 3: true}
	return t.Id > 0 && t.Id < 65 && states[t.State] && t.Quota > -1 && t.Quota < 1001 && t.Name != "" && len(t.Name) < 101 && hashOK(t.Key)
}

func headOK(h Head) bool {
	return numOK(h.Size, h.Tick, h.Epoch) && len(h.Nodes) == ones(h.Size) && hashOK(h.Root, h.Sig) && hashOK(h.Nodes...)
}

func countOK(c Count) bool { return numOK(c.Next, c.Pending) }

func leaseOK(l Lease) bool { return numOK(l.Who, l.Epoch, l.Until) }

// strict reads bytes, and asks nothing of what is laid.
type strict struct {
	rest string
	bad  bool
}

func (s *strict) num() int {
	n, used := binary.Uvarint([]byte(s.rest))
	if used <= 0 || used > 1 && s.rest[used-1] == 0 || n > most {
		s.bad, s.rest = true, ""
		return 0
	}
	s.rest = s.rest[used:]
	return int(n)
}

func (s *strict) raw(n int) string {
	if n > len(s.rest) {
		s.bad, s.rest = true, ""
		return ""
	}
	out := s.rest[:n]
	s.rest = s.rest[n:]
	return out
}

func (s *strict) text() string { return s.raw(s.num()) }

// end: was all of it read, and nothing bad?
func (s *strict) end() bool { return !s.bad && s.rest == "" }

func readTree(b string) (Tree, bool) {
	s := &strict{rest: b}
	t := Tree{Id: s.num(), State: s.num(), Quota: s.num()}
	t.Name = s.text()
	t.Key = s.text()
	if !s.end() || !treeOK(t) {
		return Tree{}, false
	}
	return t, true
}

func readHead(b string) (Head, bool) {
	s := &strict{rest: b}
	h := Head{Size: s.num(), Tick: s.num(), Epoch: s.num()}
	h.Root = s.raw(32)
	h.Sig = s.raw(32)
	for s.rest != "" {
		h.Nodes = append(h.Nodes, s.raw(32))
	}
	if !s.end() || !headOK(h) {
		return Head{}, false
	}
	return h, true
}

func readCount(b string) (Count, bool) {
	s := &strict{rest: b}
	c := Count{Next: s.num(), Pending: s.num()}
	if !s.end() {
		return Count{}, false
	}
	return c, true
}

func readLease(b string) (Lease, bool) {
	s := &strict{rest: b}
	l := Lease{Who: s.num(), Epoch: s.num(), Until: s.num()}
	if !s.end() {
		return Lease{}, false
	}
	return l, true
}

// wantSign is P18.2's, by Go's own library.
func wantSign(t Tree, h Head) string {
	put := func(n int) string { return nums(min(max(n, 0), 1<<62-1)) }
	mac := hmac.New(sha256.New, []byte(t.Key))
	mac.Write([]byte(put(t.Id) + put(h.Size) + put(h.Tick) + put(h.Epoch) + text(h.Root)))
	return string(mac.Sum(nil))
}

func sameHead(a, b Head) bool {
	nodes := slices.Equal(a.Nodes, b.Nodes)
	return nodes && a.Size == b.Size && a.Root == b.Root && a.Tick == b.Tick && a.Epoch == b.Epoch && a.Sig == b.Sig
}

func is[T comparable](a, b T) bool { return a == b }

// short tells anything, texts by their beginnings.
func short(x any) string {
	s := strconv.QuoteToASCII(fmt.Sprintf("%+v", x))
	return s[:min(len(s), 400)]
}

// like is a transaction by the chapter's words: a plain row of keys and values, and which keys it wrote.
type like struct {
	down  api.Errno // what is answered by one that is none, or has ended
	rows  map[string]string
	wrote map[string]bool
}

func (m *like) get(key string) (string, api.Errno) {
	if m.down != api.OK {
		return "", m.down
	}
	v, there := m.rows[key]
	if !there {
		return "", api.ErrNone
	}
	return v, api.OK
}

func (m *like) put(key, value string) api.Errno {
	switch {
	case m.down != api.OK:
		return m.down
	case len(value) > 1024 || !m.wrote[key] && len(m.wrote) == 256:
		return api.ErrArg
	}
	m.rows[key], m.wrote[key] = value, true
	return api.OK
}

func (m *like) getTree(id int) (Tree, api.Errno) {
	if id < 1 || id > 64 {
		return Tree{}, api.ErrNoTree
	}
	b, f := m.get(at(id, 0))
	if f == api.ErrNone {
		return Tree{}, api.ErrNoTree
	}
	if f != api.OK {
		return Tree{}, f
	}
	x, ok := readTree(b)
	if !ok || x.Id != id {
		return Tree{}, api.ErrCorrupt
	}
	return x, api.OK
}

func (m *like) putTree(x Tree) api.Errno {
	if !treeOK(x) {
		return api.ErrArg
	}
	return m.put(at(x.Id, 0), treeBytes(x))
}

func (m *like) fresh() (int, api.Errno) {
	b, f := m.get(at(0, 0))
	if f == api.ErrNone {
		b, f = "\x00", api.OK
	}
	if f != api.OK {
		return 0, f
	}
	s := &strict{rest: b}
	n := s.num()
	if !s.end() {
		return 0, api.ErrCorrupt
	}
	if n >= 64 {
		return 0, api.ErrArg
	}
	if f := m.put(at(0, 0), nums(n+1)); f != api.OK {
		return 0, f
	}
	return n + 1, api.OK
}

func (m *like) trees() []Tree {
	var out []Tree
	for id := range 65 {
		if x, f := m.getTree(id); f == api.OK {
			out = append(out, x)
		}
	}
	return out
}

// wantOf is what is got of a tree's one row in a table.
func wantOf[T any](m *like, id, table int, read func(string) (T, bool)) (T, api.Errno) {
	var none T
	if id < 1 || id > 64 {
		return none, api.ErrNoTree
	}
	b, f := m.get(at(id, table))
	if f == api.ErrNone {
		return none, api.OK
	}
	if f != api.OK {
		return none, f
	}
	x, ok := read(b)
	if !ok {
		return none, api.ErrCorrupt
	}
	return x, api.OK
}

// wantPut is what is answered to a Put of it.
func wantPut(m *like, id, table int, ok bool, b string) api.Errno {
	switch {
	case id < 1 || id > 64:
		return api.ErrNoTree
	case !ok:
		return api.ErrArg
	}
	return m.put(at(id, table), b)
}

// both is a transaction, and beside it the model of which the same is asked.
type both struct {
	*testing.T
	e *lsm.Engine
	x *txn.Txn
	m *like
}

func newEngine(t *testing.T) (*lsm.Engine, *disk.Disk) {
	t.Helper()
	d, f := disk.New(room)
	if f != api.OK {
		t.Fatal(f)
	}
	return open(t, d), d
}

func open(t *testing.T, d *disk.Disk) *lsm.Engine {
	t.Helper()
	e, f := lsm.Open(d)
	if f != api.OK {
		t.Fatal(f)
	}
	return e
}

// begin begins a transaction of an engine in which nothing is Gone.
func begin(t *testing.T, e *lsm.Engine) *both {
	t.Helper()
	x, f := txn.Begin(e)
	if f != api.OK {
		t.Fatal(f)
	}
	m := &like{rows: map[string]string{}, wrote: map[string]bool{}}
	for _, r := range e.Scan(nil, nil, e.Seq()) {
		m.rows[string(r.Key)] = string(r.Value)
	}
	return &both{t, e, x, m}
}

func newBoth(t *testing.T) *both {
	t.Helper()
	e, _ := newEngine(t)
	return begin(t, e)
}

// raw puts any bytes as a key's value.
func (b *both) raw(key, value string) *both {
	b.Helper()
	if f := b.x.Put([]byte(key), []byte(value)); f != api.OK {
		b.Fatal(f)
	}
	b.m.rows[key], b.m.wrote[key] = value, true
	return b
}

// again commits, and begins another one.
func (b *both) again() *both {
	b.Helper()
	if _, f := b.x.Commit(); f != api.OK {
		b.Fatal(f)
	}
	next := begin(b.T, b.e)
	if !maps.Equal(next.m.rows, b.m.rows) {
		b.Fatalf("committed: %s, not %s", short(next.m.rows), short(b.m.rows))
	}
	return next
}

// same fails, unless the transaction's rows are the model's.
func (b *both) same(what string) {
	b.Helper()
	if b.m.down != api.OK {
		return
	}
	got := map[string]string{}
	for _, r := range b.x.Scan(nil, nil) {
		got[string(r.Key)] = string(r.Value)
	}
	if !maps.Equal(got, b.m.rows) {
		b.Fatalf("behind %s: %s, not %s", what, short(got), short(b.m.rows))
	}
}

// got fails, unless x and f are as asked for.
func got[T any](b *both, what string, x T, f api.Errno, want T, g api.Errno, alike func(a, b T) bool) (T, api.Errno) {
	b.Helper()
	if f != g || !alike(x, want) {
		b.Fatalf("%s: %s %d, not %s %d", what, short(x), f, short(want), g)
	}
	return x, f
}

// did fails, unless f is as asked for, and the rows are.
func (b *both) did(what string, f, want api.Errno) api.Errno {
	b.Helper()
	if f != want {
		b.Fatalf("%s: %d, not %d", what, f, want)
	}
	b.same(what)
	return f
}

func (b *both) getTree(id int) (Tree, api.Errno) {
	b.Helper()
	want, g := b.m.getTree(id)
	x, f := GetTree(b.x, id)
	return got(b, fmt.Sprint("GetTree ", id), x, f, want, g, is)
}

func (b *both) putTree(x Tree) api.Errno {
	b.Helper()
	return b.did("PutTree of "+short(x), PutTree(b.x, x), b.m.putTree(x))
}

func (b *both) fresh() (int, api.Errno) {
	b.Helper()
	want, g := b.m.fresh()
	n, f := Fresh(b.x)
	b.same("Fresh")
	return got(b, "Fresh", n, f, want, g, is)
}

func (b *both) trees() []Tree {
	b.Helper()
	l, _ := got(b, "Trees", Trees(b.x), api.OK, b.m.trees(), api.OK, slices.Equal)
	return l
}

func (b *both) getCount(id int) (Count, api.Errno) {
	b.Helper()
	want, g := wantOf(b.m, id, 1, readCount)
	x, f := GetCount(b.x, id)
	return got(b, fmt.Sprint("GetCount ", id), x, f, want, g, is)
}

func (b *both) putCount(id int, c Count) api.Errno {
	b.Helper()
	want := wantPut(b.m, id, 1, countOK(c), countBytes(c))
	return b.did(fmt.Sprint("PutCount ", id, c), PutCount(b.x, id, c), want)
}

func (b *both) getHead(id int) (Head, api.Errno) {
	b.Helper()
	want, g := wantOf(b.m, id, 6, readHead)
	x, f := GetHead(b.x, id)
	return got(b, fmt.Sprint("GetHead ", id), x, f, want, g, sameHead)
}

func (b *both) putHead(id int, h Head) api.Errno {
	b.Helper()
	want := wantPut(b.m, id, 6, headOK(h), headBytes(h))
	return b.did(fmt.Sprint("PutHead ", id, " ", short(h)), PutHead(b.x, id, h), want)
}

func (b *both) getLease(id int) (Lease, api.Errno) {
	b.Helper()
	want, g := wantOf(b.m, id, 7, readLease)
	x, f := GetLease(b.x, id)
	return got(b, fmt.Sprint("GetLease ", id), x, f, want, g, is)
}

func (b *both) putLease(id int, l Lease) api.Errno {
	b.Helper()
	want := wantPut(b.m, id, 7, leaseOK(l), leaseBytes(l))
	return b.did(fmt.Sprint("PutLease ", id, l), PutLease(b.x, id, l), want)
}

// gets asks for all rows of these trees.
func (b *both) gets(ids ...int) *both {
	b.Helper()
	for _, id := range ids {
		b.getTree(id)
		b.getCount(id)
		b.getHead(id)
		b.getLease(id)
	}
	b.trees()
	b.same("what is got")
	return b
}

// puts puts all rows of these trees, each another one's.
func (b *both) puts(ids ...int) *both {
	b.Helper()
	for _, id := range ids {
		b.putTree(aTree(id))
		b.putCount(id, aCount(id))
		b.putHead(id, aHead(id))
		b.putLease(id, aLease(id))
	}
	return b
}

// allIds are those that trees may have.
func allIds() []int {
	var out []int
	for id := range 64 {
		out = append(out, id+1)
	}
	return out
}

// oddIds are none that a tree may have; among them such as have the last byte, or the low bits, of one that may.
func oddIds() []int {
	return []int{0, -1, -2, -64, 65, 66, 128, 255, 256, 257, 1<<32 + 1, most, most + 1, 1<<62 + 1, math.MinInt, math.MinInt + 1, math.MaxInt}
}

// edges are numbers around those that may be.
func edges() []int {
	return []int{0, 1, 127, 128, 16383, 16384, 1<<32 - 1, 1 << 32, most - 1, most, most + 1, most + 2, 1 << 41, 1<<62 - 1, 1 << 62, math.MaxInt, -1, -2, -most, math.MinInt}
}

// oddTexts are none that may be a hash.
func oddTexts() []string {
	h := hash(0)
	return []string{"", "\x00", h[:1], h[:31], h + "\x00", h + h, strings.Repeat(h, 100)}
}

// an asking is a call of the package, its transaction open.
type asking struct {
	what string
	do   func(x *txn.Txn) (any, api.Errno)
	zero any
}

// askings are calls that answer OK, or ErrNoTree, of a new store.
func askings() []asking {
	put := func(f api.Errno) (any, api.Errno) { return nil, f }
	return []asking{
		{"GetTree", func(x *txn.Txn) (any, api.Errno) { return GetTree(x, 1) }, Tree{}},
		{"PutTree", func(x *txn.Txn) (any, api.Errno) { return put(PutTree(x, aTree(1))) }, nil},
		{"Fresh", func(x *txn.Txn) (any, api.Errno) { return Fresh(x) }, 0},
		{"GetCount", func(x *txn.Txn) (any, api.Errno) { return GetCount(x, 1) }, Count{}},
		{"PutCount", func(x *txn.Txn) (any, api.Errno) { return put(PutCount(x, 1, aCount(1))) }, nil},
		{"GetHead", func(x *txn.Txn) (any, api.Errno) { return GetHead(x, 1) }, Head{}},
		{"PutHead", func(x *txn.Txn) (any, api.Errno) { return put(PutHead(x, 1, aHead(1))) }, nil},
		{"GetLease", func(x *txn.Txn) (any, api.Errno) { return GetLease(x, 1) }, Lease{}},
		{"PutLease", func(x *txn.Txn) (any, api.Errno) { return put(PutLease(x, 1, aLease(1))) }, nil},
	}
}

// turned are a row's bytes with faults: cut off, lengthened, bytes turned, put in, left out, in another order.
func turned(b string) []string {
	out := []string{"", b + "\x00", b + "\x01", b + b, "\x00" + b, b + strings.Repeat("\x00", 32), string(bytes.ToUpper([]byte(b)))}
	for i := range b {
		out = append(out, b[:i], b[i:], b[:i]+b[i+1:], b[:i]+"\x00"+b[i:], b[i:]+b[:i])
		for _, x := range []byte{1, 2, 3, 4, 8, 16, 32, 64, 127, 128, 129, 255} {
			c := []byte(b)
			c[i] ^= x
			out = append(out, string(c))
		}
	}
	return out
}
