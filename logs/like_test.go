package logs

import (
	"bytes"
	"crypto/hmac"
	"crypto/sha256"
	"encoding/binary"
	"fmt"
	"maps"
	"math"
	"reflect"
	"slices"
	"strconv"
	"strings"
	"testing"

	"sawyer/api"
	"sawyer/disk"
	"sawyer/rows"
	"sawyer/txn"
)

const (
	most = 1 << 40 // MaxNum
	room = 1 << 30
)

// fix are numbers of eight bytes each.
func fix(l ...int) string {
	var b []byte
	for _, n := range l {
		b = binary.BigEndian.AppendUint64(b, uint64(n))
	}
	return string(b)
}

// at is the key of a tree's table, and of numbers behind it.
func at(id, table int, behind ...int) string {
	return fix(id) + string([]byte{byte(table)}) + fix(behind...)
}

// nums are numbers as bytes.
func nums(l ...int) string {
	var b []byte
	for _, n := range l {
		b = binary.AppendUvarint(b, uint64(n))
	}
	return string(b)
}

func text(s string) string { return nums(len(s)) + s }

func sum(l ...string) string {
	s := sha256.Sum256([]byte(strings.Join(l, "")))
	return string(s[:])
}

func leafHash(leaf string) string { return sum("\x00", leaf) }

func nodeHash(l, r string) string { return sum("\x01", l, r) }

func hashesOf(leaves []string) []string {
	var out []string
	for _, leaf := range leaves {
		out = append(out, leafHash(leaf))
	}
	return out
}

// cut is the greatest power of two that is less than n.
func cut(n int) int {
	k := 1
	for 2*k < n {
		k *= 2
	}
	return k
}

// wantRoot is RFC 6962's root of leaves' hashes.
func wantRoot(l []string) string {
	switch len(l) {
	case 0:
		return sum()
	case 1:
		return l[0]
	}
	k := cut(len(l))
	return nodeHash(wantRoot(l[:k]), wantRoot(l[k:]))
}

// wantPath is RFC 6962's path of leaf m.
func wantPath(m int, l []string) []string {
	if len(l) == 1 {
		return nil
	}
	k := cut(len(l))
	if m < k {
		return append(wantPath(m, l[:k]), wantRoot(l[k:]))
	}
	return append(wantPath(m-k, l[k:]), wantRoot(l[:k]))
}

// wantProof is RFC 6962's proof of the first m leaves.
func wantProof(m int, l []string, own bool) []string {
	if m == len(l) {
		if own {
			return nil
		}
		return []string{wantRoot(l)}
	}
	k := cut(len(l))
	if m <= k {
		return append(wantProof(m, l[:k], own), wantRoot(l[k:]))
	}
	return append(wantProof(m-k, l[k:], false), wantRoot(l[:k]))
}

// wantNodes are the roots of the perfect trees of which leaves are, the greatest first.
func wantNodes(l []string) []string {
	var out []string
	for size := 1 << 20; size > 0; size /= 2 {
		if len(l)&size != 0 {
			out, l = append(out, wantRoot(l[:size])), l[size:]
		}
	}
	return out
}

// wantSig is a head's code.
func wantSig(x rows.Tree, h rows.Head) string {
	mac := hmac.New(sha256.New, []byte(x.Key))
	mac.Write([]byte(nums(x.Id, h.Size, h.Tick, h.Epoch) + text(h.Root)))
	return string(mac.Sum(nil))
}

func headBytes(h rows.Head) string {
	return nums(h.Size, h.Tick, h.Epoch) + h.Root + h.Sig + strings.Join(h.Nodes, "")
}

func keyOf(id int) string { return strings.Repeat(string(rune('a'+id%26)), 32) }

// log is a tree of the model: its leaves in their order, and what it has come to.
type log struct {
	rows.Tree
	all   []string
	heads []rows.Head // the last one counts
	lease rows.Lease
}

// in is how many of the leaves are in.
func (l *log) in() int {
	if len(l.heads) == 0 {
		return 0
	}
	return l.heads[len(l.heads)-1].Size
}

func (l *log) waiting() int { return len(l.all) - l.in() }

// like is a service by the chapter's words.
type like struct {
	clock  int
	logs   []*log // by Id, from 1 on
	seq    int
	newest map[string]int // by which commit each row was written last
	pins   map[int]int
	maybe  *effect // what a call wrote as the power went
	tight  bool    // the disk has little room
}

// effect is what a call is to write.
type effect struct {
	wrote, guards []string // rows, by names of the model's own
	turn          func()
}

func fails(f api.Errno) (Answer, *effect) { return Answer{E: f}, nil }

func row(kind string, l ...int) string { return kind + fmt.Sprint(l) }

// there is a tree that is there.
func (m *like) there(id int) (*log, api.Errno) {
	if id < 1 || id > len(m.logs) || m.logs[id-1].State == 3 {
		return nil, api.ErrNoTree
	}
	return m.logs[id-1], api.OK
}

// operate is what an operation answers, and what it is to write; nil, if nothing.
func (m *like) operate(c Call) (Answer, *effect) {
	switch c.Op {
	case 1:
		return m.create(c)
	case 5:
		var out []rows.Tree
		for _, l := range m.logs {
			if l.State != 3 {
				out = append(out, l.Tree)
			}
		}
		return Answer{Trees: out}, nil
	case 13, 18:
		return m.leased(c)
	}
	if f := m.badNumbers(c); f != api.OK {
		return fails(f)
	}
	l, f := m.there(c.Tree)
	if f != api.OK {
		return fails(f)
	}
	switch c.Op {
	case 2:
		return Answer{}, l.turns(func() { l.State = 2 })
	case 3:
		return Answer{}, l.turns(func() { l.State = 3 })
	case 4:
		return Answer{}, l.turns(func() { l.Quota = c.A })
	case 6:
		return l.queue(string(c.Data))
	case 11:
		return m.take(l, c.A)
	case 12:
		return m.integrate(l, c.A, c.B, c.C)
	case 17:
		return Answer{N: l.waiting()}, nil
	}
	return l.tells(c), nil
}

// badNumbers is the error that goes ahead of the tree's.
func (m *like) badNumbers(c Call) api.Errno {
	bad := map[int]bool{
		4:  c.A < 0 || c.A > 1000,
		6:  len(c.Data) > 512,
		11: c.A < 1 || c.A > 1000 || m.clock > most-10,
		12: c.C < 1 || c.C > 32,
	}
	if bad[c.Op] || c.Op < 1 || c.Op > 18 {
		return api.ErrArg
	}
	return api.OK
}

func (m *like) create(c Call) (Answer, *effect) {
	if c.Name == "" || len(c.Name) > 100 || len(c.Key) != 32 || c.A < 0 || c.A > 1000 || len(m.logs) == 64 {
		return fails(api.ErrArg)
	}
	id := len(m.logs) + 1
	turn := func() {
		m.logs = append(m.logs, &log{Tree: rows.Tree{Id: id, State: 1, Quota: c.A, Name: c.Name, Key: c.Key}})
	}
	return Answer{N: id}, &effect{[]string{"trees", row("tree", id)}, nil, turn}
}

func (l *log) turns(turn func()) *effect {
	return &effect{[]string{row("tree", l.Id)}, nil, turn}
}

func (l *log) queue(leaf string) (Answer, *effect) {
	n := slices.Index(l.all, leaf)
	switch {
	case n >= 0:
		return Answer{N: n, In: n < l.in(), Is: true}, nil
	case l.State == 2:
		return fails(api.ErrFrozen)
	case l.waiting() >= l.Quota:
		return fails(api.ErrQuota)
	}
	n = len(l.all)
	wrote := []string{row("count", l.Id), row("waits", l.Id, n), row("place", l.Id) + leaf}
	return Answer{N: n}, &effect{wrote, []string{row("tree", l.Id)}, func() { l.all = append(l.all, leaf) }}
}

// leased is what does not ask whether the tree is there: to tell of a lease, and to give it up.
func (m *like) leased(c Call) (Answer, *effect) {
	l := &log{}
	switch {
	case c.Tree < 1 || c.Tree > 64:
		return fails(api.ErrNoTree)
	case c.Tree <= len(m.logs):
		l = m.logs[c.Tree-1]
	}
	switch {
	case c.Op == 18:
		return Answer{Lease: l.lease}, nil
	case !m.holds(l, c.A, c.B):
		return fails(api.ErrLease)
	}
	return Answer{}, &effect{[]string{row("lease", l.Id)}, nil, func() { l.lease.Until = m.clock }}
}

func (m *like) take(l *log, who int) (Answer, *effect) {
	is := rows.Lease{Who: who, Epoch: l.lease.Epoch, Until: m.clock + 10}
	if l.lease.Until <= m.clock {
		is.Epoch++
	} else if l.lease.Who != who {
		return fails(api.ErrLease)
	}
	return Answer{Lease: is}, &effect{[]string{row("lease", l.Id)}, []string{row("tree", l.Id)}, func() { l.lease = is }}
}

func (m *like) holds(l *log, who, epoch int) bool {
	return l.lease.Who == who && l.lease.Epoch == epoch && l.lease.Until > m.clock
}

func (m *like) integrate(l *log, who, epoch, take int) (Answer, *effect) {
	if !m.holds(l, who, epoch) {
		return fails(api.ErrLease)
	}
	if l.waiting() == 0 && len(l.heads) > 0 {
		return fails(api.ErrNothing)
	}
	wrote := []string{row("head", l.Id), row("count", l.Id)}
	from, to := l.in(), min(l.in()+take, len(l.all))
	for n := from; n < to; n++ {
		wrote = append(wrote, row("waits", l.Id, n), row("leaf", l.Id, n), row("place", l.Id)+l.all[n])
	}
	hashes := hashesOf(l.all[:to])
	h := rows.Head{Size: to, Root: wantRoot(hashes), Tick: m.clock, Epoch: epoch, Nodes: wantNodes(hashes)}
	h.Sig = wantSig(l.Tree, h)
	return Answer{Head: h}, &effect{wrote, []string{row("tree", l.Id), row("lease", l.Id)}, func() { l.heads = append(l.heads, h) }}
}

// tells is what is told of a head.
func (l *log) tells(c Call) Answer {
	if len(l.heads) == 0 {
		return Answer{E: api.ErrNothing}
	}
	h := l.heads[len(l.heads)-1]
	isBad := map[int]bool{
		7:  false,
		8:  c.B > h.Size || c.A < 0 || c.A >= c.B,
		9:  c.B > h.Size || c.A < 1 || c.A > c.B,
		10: c.A < 0 || c.A >= c.B || c.B > h.Size || c.B-c.A > 32,
	}
	if isBad[c.Op] {
		return Answer{E: api.ErrRange}
	}
	var a Answer
	switch c.Op {
	case 7:
		a.Head = h
	case 8:
		a.Hashes = wantPath(c.A, hashesOf(l.all[:c.B]))
	case 9:
		a.Hashes = wantProof(c.A, hashesOf(l.all[:c.B]), true)
	case 10:
		for _, leaf := range l.all[c.A:c.B] {
			a.Leaves = append(a.Leaves, []byte(leaf))
		}
	}
	return a
}

// likeJob is a call of the model's.
type likeJob struct {
	m       *like
	c       Call
	asked   bool
	clock   int
	seq     int
	vain    int
	answer  Answer
	effect  *effect
	done    bool
	written bool // its last step wrote
}

func (j *likeJob) ends(a Answer) { j.answer, j.done = a, true }

// step does the next step. What the engine and the disk are in trouble for is told.
func (j *likeJob) step(engine, trouble api.Errno) {
	j.written = false
	switch {
	case j.done:
	case j.asked:
		j.asked = false
		j.writes(trouble)
	case j.c.Op == 14:
		if j.c.A < 0 || j.c.A > most-j.m.clock {
			j.ends(Answer{E: api.ErrArg})
			return
		}
		j.m.clock += j.c.A
		j.ends(Answer{N: j.m.clock})
	case j.c.Op == 15 || j.c.Op == 16:
		j.ends(Answer{E: engine})
	default:
		j.asks()
	}
}

func (j *likeJob) asks() {
	if j.m.pins[j.m.seq] == 0 && len(j.m.pins) == 16 {
		j.ends(Answer{E: api.ErrArg})
		return
	}
	a, x := j.m.operate(j.c)
	if x == nil {
		j.ends(a)
		return
	}
	j.asked, j.clock, j.seq, j.answer, j.effect = true, j.m.clock, j.m.seq, a, x
	j.m.pins[j.seq]++
}

func (j *likeJob) writes(trouble api.Errno) {
	j.m.unpin(j.seq)
	onClock := j.c.Op == 11 || j.c.Op == 12 || j.c.Op == 13
	late := slices.ContainsFunc(slices.Concat(j.effect.wrote, j.effect.guards), func(r string) bool { return j.m.newest[r] > j.seq })
	switch {
	case late || onClock && j.clock != j.m.clock:
		j.vain++
		if j.vain == 9 {
			j.ends(Answer{E: api.ErrConflict})
		}
	case trouble != api.OK:
		j.ends(Answer{E: trouble})
		if trouble == api.ErrPower && j.m.maybe == nil {
			j.m.maybe = j.effect
		}
	default:
		j.m.does(j.effect)
		j.written = true
		j.ends(j.answer)
	}
}

func (m *like) unpin(seq int) {
	if m.pins[seq]--; m.pins[seq] == 0 {
		delete(m.pins, seq)
	}
}

func (m *like) does(x *effect) {
	m.seq++
	for _, r := range x.wrote {
		m.newest[r] = m.seq
	}
	x.turn()
}

// rows are all rows by the chapters' words.
func (m *like) rows() map[string]string {
	out := map[string]string{}
	if len(m.logs) > 0 {
		out[at(0, 0)] = nums(len(m.logs))
	}
	for _, l := range m.logs {
		out[at(l.Id, 0)] = nums(l.Id, l.State, l.Quota) + text(l.Name) + text(l.Key)
		if len(l.all) > 0 || len(l.heads) > 0 {
			out[at(l.Id, 1)] = nums(len(l.all), l.waiting())
		}
		for n, leaf := range l.all {
			table, isIn := 2, 0
			if n < l.in() {
				table, isIn = 3, 1
			}
			out[at(l.Id, table, n)] = leaf
			out[at(l.Id, 4)+leafHash(leaf)] = nums(isIn, n)
		}
		hashes := hashesOf(l.all[:l.in()])
		for level, size := 0, 1; size <= len(hashes); level, size = level+1, 2*size {
			for i := range len(hashes) / size {
				out[at(l.Id, 5, level, i)] = wantRoot(hashes[i*size : (i+1)*size])
			}
		}
		if len(l.heads) > 0 {
			out[at(l.Id, 6)] = headBytes(l.heads[len(l.heads)-1])
		}
		if l.lease.Epoch > 0 {
			out[at(l.Id, 7)] = nums(l.lease.Who, l.lease.Epoch, l.lease.Until)
		}
	}
	return out
}

// world is a service, and beside it the model of which the same is asked.
type world struct {
	*testing.T
	d *disk.Disk
	s *Logs
	m *like
}

func newWorld(t *testing.T) *world {
	t.Helper()
	d, f := disk.New(room)
	if f != api.OK {
		t.Fatal(f)
	}
	w := &world{T: t, d: d, m: &like{newest: map[string]int{}, pins: map[int]int{}}}
	return w.opens(0)
}

// treeWorld has some trees, with a quota of 1000 each.
func treeWorld(t *testing.T, trees int) *world {
	t.Helper()
	w := newWorld(t)
	for id := 1; id <= trees; id++ {
		w.makes(id)
	}
	return w
}

// opens opens the disk at a tick; it holds what the model has.
func (w *world) opens(now int) *world {
	w.Helper()
	s, f := Open(w.d, now)
	if f != api.OK || s.Now() != now {
		w.Fatalf("Open at %d: %d, %d", now, f, s.Now())
	}
	w.s, w.m.clock = s, now
	clear(w.m.pins)
	if x := w.m.maybe; x != nil {
		w.m.maybe = nil
		if w.differs() != "" {
			w.m.does(x)
		}
	}
	w.same("Open")
	return w
}

// crash opens the disk again: what was not sure is gone, but for a beginning.
func (w *world) crash(now int, picks ...int) {
	w.Helper()
	if f := w.d.Crash(picks); f != api.OK {
		w.Fatal(f)
	}
	w.opens(now)
}

// core is the service's, for tests that look into it.
func (w *world) core(do func(c *core)) {
	w.Helper()
	c, made := w.s.enter()
	if !made {
		w.Fatal("it is not made")
	}
	defer w.s.leave(c)
	do(c)
}

// stored are all rows that the service has.
func (w *world) stored() map[string]string {
	w.Helper()
	out := map[string]string{}
	w.core(func(c *core) {
		for _, x := range c.engine.Scan(nil, nil, c.engine.Seq()) {
			out[string(x.Key)] = string(x.Value)
		}
	})
	return out
}

// differs tells a row that is not the model's.
func (w *world) differs() string {
	w.Helper()
	got, want := w.stored(), w.m.rows()
	for _, k := range slices.Sorted(maps.Keys(want)) {
		if v, there := got[k]; !there || v != want[k] {
			return fmt.Sprintf("%q is %.100q, not %.100q (%t)", k, v, want[k], there)
		}
	}
	for k, v := range got {
		if _, there := want[k]; !there {
			return fmt.Sprintf("%q is %.100q, and should not be there", k, v)
		}
	}
	return ""
}

// same fails, unless all rows are the model's, and so is the clock.
func (w *world) same(what string) *world {
	w.Helper()
	if x := w.differs(); x != "" {
		w.Fatalf("behind %s: %s", what, x)
	}
	if w.s.Now() != w.m.clock {
		w.Fatalf("behind %s: it is %d, not %d", what, w.s.Now(), w.m.clock)
	}
	return w
}

// raw puts a row as no call would; rawGone takes it away. No row of the model may hang on it.
func (w *world) raw(key, value string) *world {
	w.Helper()
	return w.within(func(x *txn.Txn) api.Errno { return x.Put([]byte(key), []byte(value)) })
}

func (w *world) rawGone(key string) *world {
	w.Helper()
	return w.within(func(x *txn.Txn) api.Errno { return x.Delete([]byte(key)) })
}

func (w *world) within(do func(x *txn.Txn) api.Errno) *world {
	w.Helper()
	w.core(func(c *core) {
		x, f := txn.Begin(c.engine)
		if f != api.OK {
			w.Fatal(f)
		}
		if f := do(x); f != api.OK {
			w.Fatal(f)
		}
		if _, f := x.Commit(); f != api.OK {
			w.Fatal(f)
		}
	})
	w.m.seq++
	return w
}

// both is a job, and beside it the model's.
type both struct {
	*world
	j *Job
	m *likeJob
}

func (w *world) start(c Call) *both {
	w.Helper()
	ops := w.d.Ops()
	in := c
	in.Data = bytes.Clone(c.Data)
	j := w.s.Start(in)
	for i := range in.Data { // it is not kept
		in.Data[i] ^= 255
	}
	if j == nil || w.d.Ops() != ops {
		w.Fatal(short(c), ": no job, or it has written already")
	}
	return &both{w, j, &likeJob{m: w.m, c: c}}
}

// engine is what the engine is to answer to a Flush or a Compact.
func (w *world) engine(op int) api.Errno {
	answer := api.OK
	w.core(func(c *core) {
		v := c.engine.Version()
		var levels [4]int
		for _, x := range v.Tables {
			levels[x.Level]++
		}
		idle := op == 15 && c.engine.Waiting() == 0 || op == 16 && max(levels[0], levels[1], levels[2]) < 4
		switch {
		case w.d.Off():
			answer = api.ErrPower
		case idle:
			answer = api.ErrNothing
		}
	})
	return answer
}

// step does the next step of both: the answers are the same, and the disk is written to by what the model writes alone.
func (b *both) step() (Answer, bool) {
	b.Helper()
	engine, off, ops := b.engine(b.m.c.Op), b.d.Off(), b.d.Ops()
	a, done := b.j.Step()
	trouble := api.OK
	switch {
	case off:
		trouble = api.ErrPower
	case b.d.Off() || b.world.m.tight && a.E == api.ErrNoSpace:
		trouble = a.E
	}
	if trouble != api.OK && engine == api.OK {
		engine = trouble
	}
	maybe := b.world.m.maybe
	b.m.step(engine, trouble)
	if off {
		b.world.m.maybe = maybe // one that has begun without power writes nothing
	}
	b.answers(a, done)
	wrote := b.d.Ops() != ops
	if b.m.c.Op != 15 && b.m.c.Op != 16 && wrote != b.m.written && !(b.d.Off() && !off) {
		b.Fatalf("%s: it is %t that it wrote", short(b.m.c), wrote)
	}
	return a, done
}

// answers fails, unless that is what the model answers.
func (b *both) answers(a Answer, done bool) {
	b.Helper()
	want := b.m.answer
	if !b.m.done {
		want = Answer{}
	}
	if done != b.m.done || !sameAnswer(a, want) {
		b.Fatalf("%s: %s %t, not %s %t", short(b.m.c), short(a), done, short(want), b.m.done)
	}
}

// rest does all steps that are left, and says how many.
func (b *both) rest() (Answer, int) {
	b.Helper()
	for n := 1; n <= 18; n++ {
		if a, done := b.step(); done {
			return a, n
		}
	}
	b.Fatal(short(b.m.c), ": more than 18 steps")
	return Answer{}, 0
}

// do does a call by its steps, and its answer is that of Do.
func (w *world) do(c Call) Answer {
	w.Helper()
	a, _ := w.start(c).rest()
	return a
}

// gets fails, unless a call answers that; of a Head, a Root and a Sig are not asked for.
func (w *world) gets(c Call, want Answer) *world {
	w.Helper()
	if a := w.do(c); !sameAnswer(a, want) {
		w.Fatalf("%s: %s, not %s", short(c), short(a), short(want))
	}
	return w
}

// fails fails, unless a call answers that error, alone.
func (w *world) fails(c Call, want api.Errno) *world {
	w.Helper()
	return w.gets(c, Answer{E: want})
}

// is fails, unless an error is as asked for.
func (w *world) is(f, want api.Errno) *world {
	w.Helper()
	if f != want {
		w.Fatalf("%d, not %d", f, want)
	}
	return w
}

// makes makes the tree that has an Id.
func (w *world) makes(id int) *world {
	w.Helper()
	return w.gets(Call{Op: Create, A: 1000, Name: "name", Key: keyOf(id)}, Answer{N: id})
}

func queueOf(id int, leaf string) Call { return Call{Op: Queue, Tree: id, Data: []byte(leaf)} }

// waits queues a leaf as the n-th.
func (w *world) waits(id int, leaf string, n int) *world {
	w.Helper()
	return w.gets(queueOf(id, leaf), Answer{N: n})
}

// had is told where a leaf is.
func (w *world) had(id int, leaf string, n int, in bool) *world {
	w.Helper()
	return w.gets(queueOf(id, leaf), Answer{N: n, In: in, Is: true})
}

func leafOf(n int) string { return strconv.Itoa(n) + strings.Repeat("+", n%7) }

// queued queues some leaves.
func (w *world) queued(id, from, to int) *world {
	w.Helper()
	for n := from; n < to; n++ {
		w.waits(id, leafOf(n), n)
	}
	return w
}

// takes takes a tree's lease.
func (w *world) takes(id, who, epoch int) *world {
	w.Helper()
	return w.gets(Call{Op: Take, Tree: id, A: who}, Answer{Lease: rows.Lease{Who: who, Epoch: epoch, Until: w.m.clock + 10}})
}

// joins takes leaves in, by who has the lease.
func (w *world) joins(id, take, size int) *world {
	w.Helper()
	l := w.m.logs[id-1].lease
	a := w.do(Call{Op: Integrate, Tree: id, A: l.Who, B: l.Epoch, C: take})
	if a.E != api.OK || a.Head.Size != size {
		w.Fatalf("Integrate of %d: %s, not of size %d", id, short(a), size)
	}
	return w
}

// ticks lets the clock go on.
func (w *world) ticks(more int) *world {
	w.Helper()
	return w.gets(Call{Op: Tick, A: more}, Answer{N: w.m.clock + more})
}

// quiet fails, unless nothing but what the model pins is pinned. It is the last that is done with a service.
func (w *world) quiet() {
	w.Helper()
	w.core(func(c *core) {
		got := map[int]int{}
		for seq := range c.engine.Seq() + 1 {
			for c.engine.Unpin(seq) == api.OK {
				got[seq]++
			}
		}
		if !maps.Equal(got, w.m.pins) {
			w.Fatal("pinned are", got, "not", w.m.pins)
		}
	})
}

// sameAnswer: are both the same? A list without elements may be nil or not.
func sameAnswer(a, b Answer) bool {
	leaves := slices.EqualFunc(a.Leaves, b.Leaves, bytes.Equal)
	if !leaves || !slices.Equal(a.Hashes, b.Hashes) || !slices.Equal(a.Trees, b.Trees) || !slices.Equal(a.Head.Nodes, b.Head.Nodes) {
		return false
	}
	a.Leaves, a.Hashes, a.Trees, a.Head.Nodes = b.Leaves, b.Hashes, b.Trees, b.Head.Nodes
	return reflect.DeepEqual(a, b)
}

// short tells anything, texts by their beginnings.
func short(x any) string {
	s := strconv.QuoteToASCII(fmt.Sprintf("%+v", x))
	return s[:min(len(s), 500)]
}

// oddIds are none that a tree may have; among them such as have the last byte, or the low bits, of one that may.
func oddIds() []int {
	return []int{0, -1, -2, -64, 65, 66, 128, 255, 256, 257, 1<<32 + 1, most, most + 1, 1<<62 + 1, math.MinInt, math.MinInt + 1, math.MaxInt}
}

// oddNums are no sizes, no places, no ticks; among them such as have the low bits of one that is.
func oddNums() []int {
	return []int{-1, -2, -31, -32, -33, math.MinInt, math.MinInt + 1, math.MinInt + 32, math.MaxInt, math.MaxInt - 31, most + 1, 1<<62 + 1, 1<<63 - 2}
}
