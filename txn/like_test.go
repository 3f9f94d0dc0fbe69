package txn

import (
	"bytes"
	"fmt"
	"regexp"
	"slices"
	"strconv"
	"strings"
	"testing"

	"sawyer/api"
	"sawyer/disk"
	"sawyer/lsm"
)

const (
	most = 1 << 40 // MaxNum
	room = 1 << 30
)

// word is an entry as the tests write it: its key's letters, its Seq, and = ahead of its value.
var word = regexp.MustCompile(`^([a-z]*)([0-9]+)(?:=(.*))?$`)

// list are the entries that words tell.
func list(words string) []api.Entry {
	var out []api.Entry
	for _, w := range strings.Fields(words) {
		m := word.FindStringSubmatch(w)
		seq, err := strconv.Atoi(m[2])
		if err != nil {
			panic(err)
		}
		out = append(out, api.Entry{Key: []byte(m[1]), Seq: seq, Value: []byte(m[3])})
	}
	return out
}

// changes are told by the words a=x, or a!, by which a is Gone.
func changes(words string) []lsm.Change {
	var out []lsm.Change
	for _, w := range strings.Fields(words) {
		key, gone := strings.CutSuffix(w, "!")
		key, value, _ := strings.Cut(key, "=")
		out = append(out, lsm.Change{Key: []byte(key), Gone: gone, Value: []byte(value)})
	}
	return out
}

func brief(b []byte) string {
	for _, c := range b {
		if c < 'a' || c > 'z' || len(b) > 20 {
			return fmt.Sprintf("%.9q(%d)", b, len(b))
		}
	}
	return string(b)
}

// told are the words of entries; other keys and values by their beginning and length.
func told(l []api.Entry) string {
	var out []string
	for _, e := range l {
		w := brief(e.Key) + strconv.Itoa(e.Seq)
		if e.Gone {
			w += "!"
		}
		if len(e.Value) > 0 {
			w += "=" + brief(e.Value)
		}
		out = append(out, w)
	}
	if len(out) > 40 {
		out = append(out[:40], fmt.Sprintf(".. %d in all", len(l)))
	}
	return strings.Join(out, " ")
}

func allAlike(a, b []api.Entry) bool {
	return slices.EqualFunc(a, b, func(a, b api.Entry) bool {
		return bytes.Equal(a.Key, b.Key) && a.Seq == b.Seq && a.Gone == b.Gone && bytes.Equal(a.Value, b.Value)
	})
}

// sample is n bytes that aren't alike.
func sample(n int) []byte {
	b := make([]byte, n)
	x := uint32(n)*2654435761 + 1
	for i := range b {
		x = x*1664525 + 1013904223
		b[i] = byte(x >> 24)
	}
	return b
}

// like is a transaction by the chapter's words, of plain lists: what was there when it began, and what it writes.
type like struct {
	seq    int
	ended  bool
	seen   []api.Entry  // by key
	writes []lsm.Change // in the order of the first write of each key
	guards []string
}

func isKey1(key []byte) bool { return len(key) > 0 && len(key) < 65 }

func (m *like) at(key []byte) int {
	return slices.IndexFunc(m.writes, func(c lsm.Change) bool { return string(c.Key) == string(key) })
}

func (m *like) write(c lsm.Change) api.Errno {
	at := m.at(c.Key)
	switch {
	case m.ended:
		return api.ErrDone
	case !isKey1(c.Key) || len(c.Value) > 1024 || at < 0 && len(m.writes) == 256:
		return api.ErrArg
	case at < 0:
		m.writes = append(m.writes, c)
	default:
		m.writes[at] = c
	}
	return api.OK
}

func (m *like) guard(key []byte) api.Errno {
	there := slices.Contains(m.guards, string(key))
	switch {
	case m.ended:
		return api.ErrDone
	case !isKey1(key) || !there && len(m.guards) == 256:
		return api.ErrArg
	case !there:
		m.guards = append(m.guards, string(key))
	}
	return api.OK
}

func (m *like) get(key []byte) ([]byte, api.Errno) {
	if m.ended {
		return nil, api.ErrDone
	}
	if at := m.at(key); at >= 0 {
		if m.writes[at].Gone {
			return nil, api.ErrNone
		}
		return m.writes[at].Value, api.OK
	}
	for _, e := range m.seen {
		if string(e.Key) == string(key) {
			return e.Value, api.OK
		}
	}
	return nil, api.ErrNone
}

func (m *like) scan(from, to []byte) []api.Entry {
	if m.ended {
		return nil
	}
	var out []api.Entry
	for _, e := range m.seen {
		if m.at(e.Key) < 0 {
			out = append(out, e)
		}
	}
	for _, c := range m.writes {
		if !c.Gone {
			out = append(out, api.Entry{Key: c.Key, Value: c.Value})
		}
	}
	out = slices.DeleteFunc(out, func(e api.Entry) bool {
		return string(e.Key) < string(from) || len(to) > 0 && string(e.Key) >= string(to)
	})
	slices.SortFunc(out, func(a, b api.Entry) int { return strings.Compare(string(a.Key), string(b.Key)) })
	return out
}

// byKey is what it writes, by key.
func (m *like) byKey() []lsm.Change {
	out := slices.Clone(m.writes)
	slices.SortFunc(out, func(a, b lsm.Change) int { return strings.Compare(string(a.Key), string(b.Key)) })
	return out
}

// touched are the keys that it writes or guards.
func (m *like) touched() []string {
	out := slices.Clone(m.guards)
	for _, c := range m.writes {
		out = append(out, string(c.Key))
	}
	return out
}

// world is an engine on which transactions go on, and beside it an engine on a disk of its own, of which the same is asked without any transaction: what is pinned, and what is written.
type world struct {
	t      *testing.T
	d, d2  *disk.Disk
	e, e2  *lsm.Engine
	newest map[string]int // of each key the last Seq at which it was written, whatever was pruned
	ops    int            // how many raw writes there had been when the disks were last found alike
}

func newWorld(t *testing.T, capacity int) *world {
	t.Helper()
	d, f := disk.New(capacity)
	if f != api.OK {
		t.Fatal(f)
	}
	return opened(t, capacity, d)
}

// opened is the world of a disk's files.
func opened(t *testing.T, capacity int, d *disk.Disk) *world {
	t.Helper()
	w := &world{t: t, d: twin(t, capacity, d), d2: twin(t, capacity, d), newest: map[string]int{}, ops: -1}
	w.e, w.e2 = mustOpen(t, w.d), mustOpen(t, w.d2)
	for _, e := range w.e2.Scan(nil, nil, most) {
		w.newest[string(e.Key)] = e.Seq
	}
	return w
}

// twin is another disk with the same files.
func twin(t *testing.T, capacity int, d *disk.Disk) *disk.Disk {
	t.Helper()
	again, f := disk.Load(capacity, d.Dump())
	if f != api.OK {
		t.Fatalf("Load: %v", f)
	}
	return again
}

func mustOpen(t *testing.T, d *disk.Disk) *lsm.Engine {
	t.Helper()
	e, f := lsm.Open(d)
	if f != api.OK {
		t.Fatalf("Open: %v", f)
	}
	return e
}

// files tells all of a disk.
func files(d *disk.Disk) string {
	var b strings.Builder
	for _, f := range d.Dump() {
		fmt.Fprintf(&b, "%s %d %x\n", f.Name, f.Safe, f.Bytes)
	}
	fmt.Fprintf(&b, "%d free, %d raw writes, off: %v", d.Free(), d.Ops(), d.Off())
	return b.String()
}

// same fails, unless both engines and disks have come to the same.
func (w *world) same(what string) {
	w.t.Helper()
	if w.e.Seq() != w.e2.Seq() || w.e.Waiting() != w.e2.Waiting() {
		w.t.Fatalf("%s: Seq %d and %d waiting, not %d and %d", what, w.e.Seq(), w.e.Waiting(), w.e2.Seq(), w.e2.Waiting())
	}
	if w.d.Ops() == w.ops && w.d2.Ops() == w.ops {
		return
	}
	w.ops = w.d2.Ops()
	if a, b := files(w.d), files(w.d2); a != b {
		w.t.Fatalf("%s: the disk is not as it is with the engine's calls alone:\n%.2000s\nnot\n%.2000s", what, a, b)
	}
}

// writes writes batches that words tell, beside all transactions.
func (w *world) writes(batches ...string) {
	w.t.Helper()
	for _, words := range batches {
		l := changes(words)
		n, f := w.e.Write(l)
		if f != api.OK {
			w.t.Fatalf("Write of %s: %v", words, f)
		}
		w.e2.Write(l)
		w.took(n, l)
	}
	w.same("Write")
}

// took notes which keys a batch wrote.
func (w *world) took(n int, l []lsm.Change) {
	for _, c := range l {
		w.newest[string(c.Key)] = n
	}
}

func (w *world) flush() api.Errno {
	w.t.Helper()
	f, want := w.e.Flush(), w.e2.Flush()
	if f != want {
		w.t.Fatalf("Flush: %v, not %v", f, want)
	}
	w.same("Flush")
	return f
}

func (w *world) compact() api.Errno {
	w.t.Helper()
	f, want := w.e.Compact(), w.e2.Compact()
	if f != want {
		w.t.Fatalf("Compact: %v, not %v", f, want)
	}
	w.same("Compact")
	return f
}

// pins tells which Seqs are pinned, how many times, and unpins them all.
func pins(e *lsm.Engine) string {
	var out []string
	for seq := e.Seq(); seq >= 0 && e.Seq() < 1000; seq-- {
		n := 0
		for e.Unpin(seq) == api.OK {
			n++
		}
		if n > 0 {
			out = append(out, fmt.Sprintf("%d*%d", n, seq))
		}
	}
	return strings.Join(out, " ")
}

// unpinned fails, unless the same is pinned in both engines; behind it nothing is.
func (w *world) unpinned(what string) {
	w.t.Helper()
	if a, b := pins(w.e), pins(w.e2); a != b {
		w.t.Fatalf("%s: pinned is %q, not %q", what, a, b)
	}
}

// both is a transaction, and beside it what the chapter's words make of the same calls.
type both struct {
	*world
	x *Txn
	m *like
}

// begin begins one, or tells why not.
func (w *world) begin() (*both, api.Errno) {
	w.t.Helper()
	seq, want := w.e2.Pin()
	x, f := Begin(w.e)
	if f != want || (x == nil) != (f != api.OK) {
		w.t.Fatalf("Begin: %v %v, not %v", x, f, want)
	}
	if f != api.OK {
		return nil, f
	}
	b := &both{w, x, &like{seq: seq, seen: w.e2.Scan(nil, nil, seq)}}
	b.sameSeq("Begin")
	return b, f
}

func (w *world) mustBegin() *both {
	w.t.Helper()
	b, f := w.begin()
	if f != api.OK {
		w.t.Fatalf("Begin: %v", f)
	}
	return b
}

func (b *both) sameSeq(what string) {
	b.t.Helper()
	if b.x.Seq() != b.m.seq {
		b.t.Fatalf("%s: its Seq is %d, not %d", what, b.x.Seq(), b.m.seq)
	}
	b.same(what)
}

func (b *both) put(key, value []byte) api.Errno {
	b.t.Helper()
	want := b.m.write(lsm.Change{Key: key, Value: value})
	if f := b.x.Put(key, value); f != want {
		b.t.Fatalf("Put(%s, %s): %v, not %v", brief(key), brief(value), f, want)
	}
	b.sameSeq("Put")
	return want
}

func (b *both) delete(key []byte) api.Errno {
	b.t.Helper()
	want := b.m.write(lsm.Change{Key: key, Gone: true})
	if f := b.x.Delete(key); f != want {
		b.t.Fatalf("Delete(%s): %v, not %v", brief(key), f, want)
	}
	b.sameSeq("Delete")
	return want
}

// does puts and deletes what words tell, all of it taken.
func (b *both) does(words string) *both {
	b.t.Helper()
	for _, c := range changes(words) {
		f := api.OK
		if c.Gone {
			f = b.delete(c.Key)
		} else {
			f = b.put(c.Key, c.Value)
		}
		if f != api.OK {
			b.t.Fatalf("%s of %s: %v", c.Key, words, f)
		}
	}
	return b
}

func (b *both) guard(key []byte) api.Errno {
	b.t.Helper()
	want := b.m.guard(key)
	if f := b.x.Guard(key); f != want {
		b.t.Fatalf("Guard(%s): %v, not %v", brief(key), f, want)
	}
	b.sameSeq("Guard")
	return want
}

// guards guards the keys that words are.
func (b *both) guards(words string) *both {
	b.t.Helper()
	for _, w := range strings.Fields(words) {
		if f := b.guard([]byte(w)); f != api.OK {
			b.t.Fatalf("Guard(%s): %v", w, f)
		}
	}
	return b
}

func (b *both) get(key []byte) ([]byte, api.Errno) {
	b.t.Helper()
	want, g := b.m.get(key)
	v, f := b.x.Get(key)
	if f != g || !bytes.Equal(v, want) || f != api.OK && v != nil {
		b.t.Fatalf("Get(%s): %s %v, not %s %v", brief(key), brief(v), f, brief(want), g)
	}
	b.sameSeq("Get")
	return v, f
}

func (b *both) scan(from, to []byte) []api.Entry {
	b.t.Helper()
	got, want := b.x.Scan(from, to), b.m.scan(from, to)
	if !allAlike(got, want) {
		b.t.Fatalf("Scan(%s, %s): %s, not %s", brief(from), brief(to), told(got), told(want))
	}
	b.sameSeq("Scan")
	return got
}

// reads asks for all keys that the transaction may know, for some that it does not, and for what stands between them.
func (b *both) reads() {
	b.t.Helper()
	keys := [][]byte{nil, {}, {0}, []byte("a"), []byte("aa"), []byte("b"), []byte("zzz"), {255}, sample(64), sample(65)}
	for _, e := range b.m.seen {
		keys = append(keys, e.Key)
	}
	for _, c := range b.m.writes {
		keys = append(keys, c.Key)
	}
	for _, k := range keys {
		b.get(k)
	}
	b.scan(nil, nil)
	step := 1 + len(keys)/6
	for i := 0; i < len(keys); i += step {
		for j := 0; j < len(keys); j += step {
			b.scan(keys[i], keys[j])
		}
	}
}

// isLate: does the engine tell of a later entry of what it touches? It must, if the key was written and is there.
func (b *both) isLate() bool {
	b.t.Helper()
	late := false
	for _, k := range b.m.touched() {
		n := b.e2.Newest([]byte(k))
		if _, f := b.e2.Get([]byte(k), most); n != b.newest[k] && f == api.OK {
			b.t.Fatalf("Newest(%s): %d, not %d", brief([]byte(k)), n, b.newest[k])
		}
		late = late || n > b.m.seq
	}
	return late
}

// end lets the transaction be ended in the model.
func (b *both) end() {
	b.m.ended = true
	b.e2.Unpin(b.m.seq)
}

// will is what a Commit answers, done by the engine's calls alone.
func (b *both) will() (int, api.Errno) {
	b.t.Helper()
	if b.m.ended {
		return 0, api.ErrDone
	}
	defer b.end()
	if len(b.m.writes) == 0 {
		return b.m.seq, api.OK
	}
	if b.isLate() {
		return 0, api.ErrConflict
	}
	n, f := b.e2.Write(b.m.byKey())
	if f == api.OK {
		b.took(n, b.m.writes)
	}
	return n, f
}

func (b *both) commit() (int, api.Errno) {
	b.t.Helper()
	want, g := b.will()
	n, f := b.x.Commit()
	if n != want || f != g {
		b.t.Fatalf("Commit: %d %v, not %d %v", n, f, want, g)
	}
	b.sameSeq("Commit")
	return n, f
}

func (b *both) abort() api.Errno {
	b.t.Helper()
	want := api.ErrDone
	if !b.m.ended {
		want = api.OK
		b.end()
	}
	if f := b.x.Abort(); f != want {
		b.t.Fatalf("Abort: %v, not %v", f, want)
	}
	b.sameSeq("Abort")
	return want
}
