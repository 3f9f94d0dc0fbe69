package lsm

import (
	"bytes"
	"fmt"
	"maps"
	"math"
	"math/rand/v2"
	"slices"
	"strings"
	"testing"

	"sawyer/api"
	"sawyer/cat"
	"sawyer/disk"
	"sawyer/edit"
)

const roomOfAll = 1 << 40

// both is an engine on a disk, and beside it what the chapter's words make of the same calls.
type both struct {
	t *testing.T
	d *disk.Disk
	e *Engine
	m *like
}

func mustLoad(t *testing.T, capacity int, l ...disk.File) *disk.Disk {
	t.Helper()
	d, f := disk.Load(capacity, l)
	if f != api.OK {
		t.Fatalf("disk.Load(%d): %v", capacity, f)
	}
	return d
}

func begin(t *testing.T, capacity int) *both {
	t.Helper()
	return opened(t, newLike(mustLoad(t, capacity)))
}

// opened is the engine of a disk as the model's is.
func opened(t *testing.T, m *like) *both {
	t.Helper()
	b := &both{t: t, d: twin(m.d), m: m.copied()}
	b.reopen()
	return b
}

// reopen opens the disk once more, as nobody's crash is behind it.
func (b *both) reopen() {
	b.t.Helper()
	e, f := Open(b.d)
	if f != api.OK || e == nil {
		b.t.Fatalf("Open: %v: %s", f, brief(b.d))
	}
	b.e = e
	b.m.do(b.m.open())
	b.m.sameDisk(b.t, "Open", b.d)
}

func (b *both) write(l []Change) api.Errno {
	b.t.Helper()
	steps, want := b.m.write(l)
	n, f := b.e.Write(l)
	if f != want || f == api.OK && n != b.m.seq || f != api.OK && n != 0 {
		b.t.Fatalf("Write of %d changes: %d %v, not %d %v", len(l), n, f, b.m.seq, want)
	}
	b.m.do(steps)
	b.m.sameDisk(b.t, "Write", b.d)
	return f
}

// writes writes batches that words tell, each of them taken.
func (b *both) writes(batches ...string) {
	b.t.Helper()
	for _, words := range batches {
		if f := b.write(changes(words)); f != api.OK {
			b.t.Fatalf("Write of %s: %v", words, f)
		}
	}
}

func (b *both) flush() api.Errno {
	b.t.Helper()
	steps, want := b.m.flush()
	if f := b.e.Flush(); f != want {
		b.t.Fatalf("Flush: %v, not %v", f, want)
	}
	b.m.do(steps)
	b.m.sameDisk(b.t, "Flush", b.d)
	return want
}

func (b *both) compact() api.Errno {
	b.t.Helper()
	steps, want := b.m.compact()
	if f := b.e.Compact(); f != want {
		b.t.Fatalf("Compact: %v, not %v", f, want)
	}
	b.m.do(steps)
	b.m.sameDisk(b.t, "Compact", b.d)
	return want
}

func (b *both) pin() (int, api.Errno) {
	b.t.Helper()
	want, g := b.m.pin()
	n, f := b.e.Pin()
	if n != want || f != g {
		b.t.Fatalf("Pin: %d %v, not %d %v", n, f, want, g)
	}
	b.m.sameDisk(b.t, "Pin", b.d)
	return n, f
}

func (b *both) unpin(seq int) api.Errno {
	b.t.Helper()
	want := b.m.unpin(seq)
	if f := b.e.Unpin(seq); f != want {
		b.t.Fatalf("Unpin(%d): %v, not %v", seq, f, want)
	}
	b.m.sameDisk(b.t, "Unpin", b.d)
	return want
}

// holds asks the engine at all Seqs, if they are few, or at some.
func (b *both) holds(what string) {
	b.t.Helper()
	seqs := []int{math.MinInt, -1, b.m.seq + 1, most, math.MaxInt}
	step := 1 + b.m.seq/12
	for seq := b.m.seq; seq >= 0 && len(seqs) < 30; seq -= step {
		seqs = append(seqs, seq)
	}
	seqs = append(seqs, b.m.pinned()...)
	b.m.holds(b.t, what, b.e, seqs...)
	b.m.follows(b.t, what, b.e)
}

// want holds an error against the one that is asked for.
func want(t *testing.T, what string, f, want api.Errno) {
	t.Helper()
	if f != want {
		t.Errorf("%s: %v, not %v", what, f, want)
	}
}

// A laid table is one that a disk is made with.
type laid struct {
	num, level int
	entries    []api.Entry
}

// made is the model of a disk on which that version counts, with these tables.
func made(t *testing.T, v edit.Version, l ...laid) *like {
	t.Helper()
	var out []disk.File
	tables := map[int][]api.Entry{}
	var ever []api.Entry
	for _, x := range l {
		v.Tables = append(v.Tables, noteOf(x.num, x.level, x.entries))
		v.Next = max(v.Next, x.num+1)
		tables[x.num] = x.entries
		out = append(out, sure(tab(x.num), tableBytes(x.entries)))
		ever = merged(ever, x.entries)
	}
	slices.SortFunc(v.Tables, noteOrder)
	if v.Gen > 0 {
		out = append(out, sure("cur", curBytes(v.Gen)), sure(man(v.Gen), manBytes(v)))
	}
	m := newLike(mustLoad(t, roomOfAll, out...))
	m.version, m.tables, m.seq, m.segment, m.ever = v, tables, v.Seq, v.Log, ever
	return m
}

// logged has a segment with batches that words tell, and behind them bytes that are no frame.
func (m *like) logged(n int, torn []byte, batches ...string) *like {
	var b []byte
	for _, words := range batches {
		m.take(changes(words))
		b = append(b, framed(bodyBytes(m.seq, changes(words)))...)
	}
	m.put(seg(n), append(b, torn...))
	return m
}

// put has a file that is sure.
func (m *like) put(name string, b []byte) {
	m.do(stepsOf(name, b))
	if len(b) == 0 {
		panic("no file of no bytes")
	}
}

// tight is the model with so much room.
func (m *like) tight(t *testing.T, free int) *like {
	t.Helper()
	out := m.copied()
	out.d = mustLoad(t, costs(m.d.Dump()...)+free, m.d.Dump()...)
	return out
}

// big are n changes of as many keys, each value of size bytes.
func big(n, from, size int) []Change {
	var out []Change
	for i := range n {
		out = append(out, Change{Key: fmt.Appendf(nil, "k%05d", from+i), Value: sample(size)})
	}
	return out
}

// row are n entries of as many keys, of one Seq.
func row(n, from, seq int) []api.Entry {
	var out []api.Entry
	for _, c := range big(n, from, 3) {
		out = append(out, api.Entry{Key: c.Key, Seq: seq, Value: c.Value})
	}
	return out
}

// Example 1.
func TestExample(t *testing.T) {
	d := mustLoad(t, 10000)
	e, f := Open(d)
	want(t, "Open", f, api.OK)
	for i, value := range []string{"1", "2"} {
		if n, f := e.Write([]Change{{Key: []byte("a"), Value: []byte(value)}}); n != i+1 || f != api.OK {
			t.Error(n, f)
		}
	}
	want(t, "Flush", e.Flush(), api.OK)
	if n, f := e.Write([]Change{{Key: []byte("a"), Gone: true}}); n != 3 || f != api.OK {
		t.Error(n, f)
	}
	if v, f := e.Get([]byte("a"), 2); string(v) != "2" || f != api.OK {
		t.Errorf("%q %v", v, f)
	}
	if v, f := e.Get([]byte("a"), 3); v != nil || f != api.ErrNone {
		t.Errorf("%q %v", v, f)
	}
}

// notOpened fails, unless Open answers that error alone.
func notOpened(t *testing.T, what string, d *disk.Disk, want api.Errno) {
	t.Helper()
	if e, f := Open(d); f != want || e != nil {
		t.Errorf("Open, %s: %v %v, not %v", what, e != nil, f, want)
	}
}

// P13.1: no disk, and an empty one.
func TestOpenNone(t *testing.T) {
	for _, d := range []*disk.Disk{nil, {}, new(disk.Disk)} {
		notOpened(t, "no disk", d, api.ErrArg)
	}
	for _, capacity := range []int{0, 1, 1000, most} {
		b := begin(t, capacity)
		b.holds("an empty disk")
		if b.d.Ops() != 0 || b.e.Seq() != 0 || b.e.Waiting() != 0 || !versionsAlike(b.e.Version(), edit.Version{}) {
			t.Error(b.d.Ops(), b.e.Seq(), b.e.Waiting(), toldVersion(b.e.Version()))
		}
	}
	b := opened(t, newLike(mustLoad(t, 1000, sure("other", sample(9)), sure("tab/1", nil), sure("wal/x", nil))))
	b.holds("files that are nobody's")
}

// off lets the power go.
func off(t *testing.T, d *disk.Disk) {
	t.Helper()
	want(t, "Cut", d.Cut(0), api.OK)
	want(t, "the cut", d.Append("cut", nil), api.ErrPower)
}

// P13.1: with the power off an engine is opened, if nothing is to be cleaned, and reads; it writes nothing.
func TestOpenOff(t *testing.T) {
	m := made(t, edit.Version{Gen: 3, Log: 2, Seq: 9}, laid{4, 0, list("a9=x b3=y")}).logged(2, nil, "c=z", "a!")
	d := twin(m.d)
	off(t, d)
	e, f := Open(d)
	want(t, "Open", f, api.OK)
	m.open()
	m.holds(t, "the power is off", e, 0, 3, 8, 9, 10, 11, 12)
	if n, f := e.Write(changes("q=x")); n != 0 || f != api.ErrPower {
		t.Error(n, f)
	}
	if n, f := e.Write(nil); n != 0 || f != api.ErrArg {
		t.Error(n, f)
	}
	want(t, "Flush", e.Flush(), api.ErrPower)
	want(t, "Compact", e.Compact(), api.ErrPower)
	if n, f := e.Pin(); n != 11 || f != api.OK {
		t.Error(n, f)
	}
	want(t, "Unpin", e.Unpin(11), api.OK)
	m.holds(t, "behind calls in vain", e, 0, 3, 8, 9, 10, 11, 12)
	m.sameDisk(t, "the power is off", d)
	empty := mustLoad(t, 1000)
	off(t, empty)
	e, f = Open(empty)
	want(t, "Open", f, api.OK)
	want(t, "Flush of no entry", e.Flush(), api.ErrPower)
	want(t, "Compact of no table", e.Compact(), api.ErrPower)
	for _, name := range []string{"cur~", man(2), tab(3), seg(1)} {
		d := mustLoad(t, roomOfAll, append(m.d.Dump(), sure(name, nil))...)
		off(t, d)
		notOpened(t, name+" is to be cleaned away", d, api.ErrPower)
		d.Crash(nil)
		if e, f := Open(d); f != api.OK || d.Has(name) {
			t.Error(f, brief(d))
		} else {
			m.holds(t, name+" was cleaned away", e, 0, 3, 8, 9, 10, 11, 12)
		}
	}
}

// with are a disk's files, but one otherwise, or, if it is nil, without it.
func with(l []disk.File, name string, b []byte) []disk.File {
	var out []disk.File
	for _, f := range l {
		if f.Name != name {
			out = append(out, f)
		}
	}
	if b != nil {
		out = append(out, sure(name, b))
	}
	return out
}

// P13.1: what Load refuses; it goes ahead of all else.
func TestOpenVersion(t *testing.T) {
	m := made(t, edit.Version{Gen: 3, Log: 2, Seq: 9}, laid{4, 0, list("a9=x b3=y")})
	l := m.d.Dump()
	for what, l := range map[string][]disk.File{
		"cur is nothing":       with(l, "cur", []byte{}),
		"cur is none":          with(l, "cur", sample(9)),
		"cur is another's":     with(l, "cur", curBytes(4)),
		"no version's file":    with(l, man(3), nil),
		"a version that's cut": with(l, man(3), manBytes(m.version)[:9]),
		"another version":      with(l, man(3), manBytes(edit.Version{Gen: 2})),
	} {
		d := mustLoad(t, roomOfAll, append(l, sure("cur~", nil), sure(seg(1), nil))...)
		was := files(d)
		notOpened(t, what, d, api.ErrCorrupt)
		off(t, d)
		notOpened(t, what+", the power off", d, api.ErrCorrupt)
		if files(d) != was {
			t.Errorf("%s: %s", what, brief(d))
		}
	}
}

// P13.1: a table's file that is not there, is none, or is not its note's.
func TestOpenTables(t *testing.T) {
	entries := list("b9=x b7! d3=y")
	m := made(t, edit.Version{Gen: 3, Log: 2, Seq: 9}, laid{4, 0, entries}, laid{6, 0, list("a1")}, laid{2, 1, list("a1 z1")}, laid{1, 3, list("q5=x")})
	opened(t, m).holds("as noted")
	l := m.d.Dump()
	wrong := map[string][]disk.File{
		"not there":        with(l, tab(4), nil),
		"the last one":     with(l, tab(1), nil),
		"another's":        with(l, tab(4), tableBytes(list("a1"))),
		"of two entries":   with(l, tab(4), tableBytes(list("b9=x d3=y"))),
		"of four entries":  with(l, tab(4), tableBytes(list("b9=x b7! b6 d3=y"))),
		"of another First": with(l, tab(4), tableBytes(list("a9=x b7! d3=y"))),
		"of a later First": with(l, tab(4), tableBytes(list("ba9=x c7! d3=y"))),
		"of another Last":  with(l, tab(4), tableBytes(list("b9=x b7! e3=y"))),
		"of a lesser Last": with(l, tab(4), tableBytes(list("b9=x b7! c3=y"))),
		"one byte more":    with(l, tab(4), append(tableBytes(entries), 0)),
	}
	for i := range tableBytes(entries) {
		turned := tableBytes(entries)
		turned[i]++
		wrong[fmt.Sprint("cut to ", i)] = with(l, tab(4), turned[:i])
		wrong[fmt.Sprint("turned at ", i)] = with(l, tab(4), turned)
	}
	for what, l := range wrong {
		notOpened(t, what, mustLoad(t, roomOfAll, l...), api.ErrCorrupt)
		d := mustLoad(t, roomOfAll, append(l, sure("cur~", nil))...)
		off(t, d)
		notOpened(t, what+", and something to clean", d, api.ErrPower)
		d.Crash(nil)
		notOpened(t, what+", and something to clean", d, api.ErrCorrupt)
		if d.Has("cur~") {
			t.Errorf("%s: it is not cleaned ahead of the tables", what)
		}
	}
	other := tableBytes(list("b9=z c7=x d3!")) // what is noted is all that is asked for
	e, f := Open(mustLoad(t, roomOfAll, with(l, tab(4), other)...))
	want(t, "other entries of that Count, First and Last", f, api.OK)
	if v, f := e.Get([]byte("c"), 9); string(v) != "x" || f != api.OK {
		t.Errorf("%q %v", v, f)
	}
	d := mustLoad(t, roomOfAll, append(l, sure(tab(5), sample(40)), sure(tab(0), nil))...)
	if _, f := Open(d); f != api.OK || d.Has(tab(5)) || d.Has(tab(0)) {
		t.Error("tables that are not noted:", f, d.Names())
	}
}

// wrongBodies are bodies that are no batch's, of the Seq 10.
func wrongBodies() map[string][]byte {
	one := changes("a=x b!")
	out := map[string][]byte{
		"no bytes":            {},
		"no change":           bodyBytes(10, nil),
		"257 changes":         bodyBytes(10, big(257, 0, 3)),
		"many changes":        bodyBytes(10, big(1000, 0, 0)),
		"a key twice":         bodyBytes(10, changes("a=x b=y a=z")),
		"a Gone key twice":    bodyBytes(10, changes("a! a!")),
		"a key without bytes": bodyBytes(10, []Change{{Value: []byte("x")}}),
		"a key of 65":         bodyBytes(10, []Change{{Key: sample(65)}}),
		"a value of 1025":     bodyBytes(10, []Change{{Key: sample(64), Value: sample(1025)}}),
		"Gone with a value":   bodyBytes(10, []Change{{Key: []byte("a"), Gone: true, Value: []byte("x")}}),
		"a byte behind it":    append(bodyBytes(10, one), 0),
		"two behind each":     append(bodyBytes(10, one), bodyBytes(11, one)...),
		"fewer than told":     append(append(num(10), num(3)...), bodyBytes(10, one)[2:]...),
		"more than told":      append(append(num(10), num(1)...), bodyBytes(10, one)[2:]...),
		"far fewer than told": append(append(num(10), num(1<<62-1)...), bodyBytes(10, one)[2:]...),
		"neither Gone nor":    slices.Concat(num(10), num(1), text([]byte("a")), num(2), text(nil)),
		"Gone by 129":         slices.Concat(num(10), num(1), text([]byte("a")), num(129), text(nil)),
		"Gone by two bytes":   slices.Concat(num(10), num(1), text([]byte("a")), []byte{0x81, 0}, text(nil)),
		"a longer Seq":        slices.Concat([]byte{0x8a, 0}, num(1), text([]byte("a")), num(0), text(nil)),
		"a longer count":      slices.Concat(num(10), []byte{0x81, 0}, text([]byte("a")), num(0), text(nil)),
		"a longer length":     slices.Concat(num(10), num(1), []byte{0x81, 0, 'a'}, num(0), text(nil)),
		"Seq above MaxNum":    bodyBytes(most+1, one),
		"Seq far above":       bodyBytes(1<<62-1, one),
		"Seq 2^62":            bodyBytes(1<<62, one),
		"no number":           bytes.Repeat([]byte{255}, 30),
		"a length far beyond": slices.Concat(num(10), num(1), num(1<<62-1), []byte("a")),
	}
	for i := range bodyBytes(10, one) {
		out[fmt.Sprint("cut to ", i)] = bodyBytes(10, one)[:i]
	}
	return out
}

// P13.1: a segment's body that is no batch's; wherever it stands.
func TestOpenBodies(t *testing.T) {
	m := made(t, edit.Version{Gen: 3, Log: 2, Seq: 9})
	good := framed(bodyBytes(10, changes("q=x")))
	for what, body := range wrongBodies() {
		for _, l := range [][]disk.File{
			{sure(seg(2), framed(body))},
			{sure(seg(7), framed(body))},
			{sure(seg(2), good), sure(seg(most), framed(body))},
			{sure(seg(2), slices.Concat(good, framed(body)))},
			{sure(seg(2), slices.Concat(framed(body), framed(bodyBytes(12, changes("q=x")))))},
		} {
			notOpened(t, what, mustLoad(t, roomOfAll, append(m.d.Dump(), l...)...), api.ErrCorrupt)
		}
		d := mustLoad(t, roomOfAll, append(m.d.Dump(), sure(seg(1), framed(body)), sure(seg(2), good))...)
		if e, f := Open(d); f != api.OK || e.Seq() != 10 || d.Has(seg(1)) {
			t.Errorf("%s, below Log: %v", what, f)
		}
		d = mustLoad(t, roomOfAll, append(m.d.Dump(), sure(seg(2), slices.Concat(good, []byte{1}, framed(body))))...)
		if e, f := Open(d); f != api.OK || e.Seq() != 10 {
			t.Errorf("%s, behind what is no frame: %v", what, f)
		}
	}
}

// P13.1: bodies that are a batch's, at the edges.
func TestOpenBatches(t *testing.T) {
	for what, l := range map[string][]Change{
		"one":                  changes("a=x"),
		"one that's Gone":      changes("a!"),
		"no value":             {{Key: []byte("a")}},
		"256":                  big(256, 0, 3),
		"256 of the greatest":  big(256, 0, 1024),
		"the longest key":      {{Key: sample(64), Value: sample(1024)}},
		"the longest, Gone":    {{Key: sample(64), Gone: true}},
		"keys of any bytes":    {{Key: []byte{0}}, {Key: []byte{0, 0}}, {Key: []byte{255}}, {Key: []byte{255, 0}}},
		"in no order":          changes("c=x a=y b!"),
		"a key and its prefix": changes("ab=x a=y abc=z"),
	} {
		m := made(t, edit.Version{Gen: 3, Log: 2, Seq: 9})
		m.put(seg(2), framed(bodyBytes(10, l)))
		m.take(l)
		opened(t, m).holds(what)
	}
}

// P13.1: Seqs rise from the version's on, segment by segment; how far does not matter.
func TestOpenSeqs(t *testing.T) {
	x := changes("a=x")
	segment := func(seqs ...int) []byte {
		b := []byte{}
		for _, seq := range seqs {
			b = append(b, framed(bodyBytes(seq, x))...)
		}
		return b
	}
	for _, c := range []struct {
		seq      int
		segments [][]int
		last     int // 0: it is corrupt
	}{
		{0, [][]int{{1}}, 1}, {0, [][]int{{0}}, 0}, {0, [][]int{{5}}, 5}, {0, [][]int{{most}}, most}, {0, [][]int{{most - 1, most}}, most},
		{9, nil, 9}, {9, [][]int{{}}, 9}, {9, [][]int{{}, {}}, 9}, {9, [][]int{{9}}, 0}, {9, [][]int{{8}}, 0}, {9, [][]int{{10}}, 10}, {9, [][]int{{11, 20, 21}}, 21},
		{9, [][]int{{10, 10}}, 0}, {9, [][]int{{11, 10}}, 0}, {9, [][]int{{10}, {11}}, 11}, {9, [][]int{{10}, {}, {12}}, 12}, {9, [][]int{{10}, {10}}, 0}, {9, [][]int{{11}, {10}}, 0},
		{9, [][]int{{10, 12}, {11}}, 0}, {9, [][]int{{10, 12}, {13, 13}}, 0}, {9, [][]int{{10, 12}, {13, 15}, {14}}, 0}, {9, [][]int{{1}, {10}}, 0},
		{most, nil, most}, {most, [][]int{{most}}, 0}, {most, [][]int{{1}}, 0}, {most - 1, [][]int{{most}}, most},
	} {
		l := made(t, edit.Version{Gen: 3, Log: 2, Seq: c.seq}).d.Dump()
		for i, seqs := range c.segments {
			l = append(l, sure(seg(2+i*i), segment(seqs...)))
		}
		e, f := Open(mustLoad(t, roomOfAll, l...))
		if c.last == 0 {
			if f != api.ErrCorrupt || e != nil {
				t.Errorf("%d, then %v: %v", c.seq, c.segments, f)
			}
			continue
		}
		if f != api.OK || e.Seq() != c.last || e.Waiting() != len(slices.Concat(c.segments...)) || e.Version().Seq != c.seq {
			t.Errorf("%d, then %v: %v, Seq %d, Waiting %d", c.seq, c.segments, f, e.Seq(), e.Waiting())
		}
	}
}

// P13.1: a table's Seqs are not asked for, what is above the version's is an entry as all others.
func TestOpenTablesSeqs(t *testing.T) {
	m := made(t, edit.Version{Gen: 3, Log: 2, Seq: 9}, laid{4, 0, list("a20=x b3=y c0=z")}, laid{5, 0, list("a7=y b12!")}, laid{1, 2, list("a30=q b9=w c0=v")}).logged(2, nil, "a=m", "b=m")
	b := opened(t, m)
	m = b.m
	m.holds(t, "Seqs in no order", b.e, -1, 0, 1, 2, 3, 6, 7, 8, 9, 10, 11, 12, 13, 19, 20, 21, 29, 30, 31)
	if b.e.Seq() != 11 || b.e.Newest([]byte("a")) != 30 || b.e.Newest([]byte("b")) != 12 || b.e.Newest([]byte("c")) != 0 {
		t.Error(b.e.Seq(), b.e.Newest([]byte("a")), b.e.Newest([]byte("b")))
	}
	if v, f := b.e.Get([]byte("c"), 0); string(v) != "z" || f != api.OK {
		t.Errorf("of one Key and Seq the first table's: %q %v", v, f)
	}
}

// P13.1: the segment to which the next batch goes, and what is taken away.
func TestOpenSegment(t *testing.T) {
	torn := framed(bodyBytes(12, changes("q=torn")))
	for _, c := range []struct {
		log  int
		have []int
		next int
	}{
		{0, nil, 0}, {0, []int{0}, 1}, {0, []int{5}, 6}, {5, nil, 5}, {5, []int{4}, 5}, {5, []int{0, 1, 4}, 5}, {5, []int{5}, 6}, {5, []int{4, 5, 6}, 7},
		{5, []int{6, 900}, 901}, {5, []int{most - 1}, most}, {5, []int{most}, most + 1}, {most, nil, most}, {most, []int{most - 1}, most}, {most, []int{most}, most + 1},
	} {
		for cut := range len(torn) {
			m := made(t, edit.Version{Gen: 3, Log: c.log, Seq: 9})
			for _, n := range c.have {
				if n >= c.log {
					m.logged(n, torn[:cut], "a=x")
				} else {
					m.put(seg(n), sample(9))
				}
			}
			b := opened(t, m)
			if b.m.segment != c.next {
				t.Fatal("the model's segment", b.m.segment, c.next)
			}
			f := b.write(changes("b=y"))
			if c.next > most {
				want(t, "Write to no segment", f, api.ErrArg)
			} else if f != api.OK || !b.d.Has(seg(c.next)) {
				t.Errorf("Log %d, segments %v: Write: %v: %s", c.log, c.have, f, brief(b.d))
			}
			b.holds("behind it")
			b.reopen()
			b.holds("opened again")
		}
	}
}

// P13.1, P13.2: a segment without bytes is one, too.
func TestOpenEmptySegment(t *testing.T) {
	m := made(t, edit.Version{Gen: 3, Log: 2, Seq: 9})
	want(t, "Append", m.d.Append(seg(4), nil), api.OK)
	b := opened(t, m)
	b.writes("a=x")
	if !b.d.Has(seg(5)) {
		t.Error(brief(b.d))
	}
	b.reopen()
	b.holds("opened again")
}

// P13.2: batches that are taken, and what they lay onto the disk.
func TestWrite(t *testing.T) {
	b := begin(t, roomOfAll)
	for i, l := range [][]Change{
		changes("a=x"), changes("a=y b=z"), changes("a!"), changes("c! b!"), big(1, 0, 0), big(256, 0, 3), big(256, 100, 1024), {{Key: sample(64), Value: sample(1024)}},
		{{Key: sample(64), Gone: true}}, {{Key: []byte{0}, Value: []byte{}}, {Key: []byte{0, 0}, Value: nil}}, {{Key: []byte("e"), Gone: true, Value: []byte{}}}, changes("zz=1 a=2 m=3"),
	} {
		want(t, "Write", b.write(l), api.OK)
		if b.e.Seq() != i+1 {
			t.Error(i, b.e.Seq())
		}
	}
	b.holds("batches")
	b.reopen()
	b.holds("opened again")
	if l := b.d.Names(); !slices.Equal(l, []string{seg(0)}) {
		t.Error(l)
	}
	b.writes("a=3")
	if l := b.d.Names(); !slices.Equal(l, []string{seg(0), seg(1)}) {
		t.Error(l)
	}
}

// P13.2: the very bytes of a body.
func TestBody(t *testing.T) {
	d := mustLoad(t, 1000)
	e, _ := Open(d)
	e.Write([]Change{{Key: []byte("ab"), Value: []byte("xyz")}, {Key: []byte("c"), Gone: true}})
	e.Write([]Change{{Key: []byte{0}}})
	body := []byte{1, 2, 2, 'a', 'b', 0, 3, 'x', 'y', 'z', 1, 'c', 1, 0}
	if b, _ := d.Read(seg(0)); !bytes.Equal(b, slices.Concat(framed(body), framed([]byte{2, 1, 1, 0, 0, 0}))) {
		t.Errorf("% x", b)
	}
}

// wrongBatches are no batches.
func wrongBatches() map[string][]Change {
	return map[string][]Change{
		"nil":                  nil,
		"no change":            {},
		"257":                  big(257, 0, 1),
		"far too many":         big(5000, 0, 0),
		"a key twice":          changes("a=x b=y a=z"),
		"a key twice, alike":   changes("a=x a=x"),
		"a key Gone and not":   changes("a! a=x"),
		"a key Gone twice":     changes("b=x a! a!"),
		"the last of 256":      append(big(255, 0, 1), big(1, 0, 1)...),
		"a zero change":        {{}},
		"no key":               {{Key: []byte{}, Value: []byte("x")}},
		"no key, Gone":         {{Gone: true}},
		"no key behind others": append(changes("a=x b=y"), Change{}),
		"a key of 65":          {{Key: sample(65), Value: []byte("x")}},
		"a key of 65, Gone":    {{Key: sample(65), Gone: true}},
		"a key of many":        {{Key: sample(1 << 20)}},
		"a value of 1025":      {{Key: []byte("a"), Value: sample(1025)}},
		"a value of many":      {{Key: []byte("a"), Value: sample(1 << 20)}},
		"Gone with a value":    {{Key: []byte("a"), Gone: true, Value: []byte("x")}},
		"Gone, behind others":  append(changes("b=x"), Change{Key: []byte("a"), Gone: true, Value: sample(1024)}),
	}
}

// P13.2: what is no batch is refused ahead of all else, and leaves all as it was.
func TestWriteWrong(t *testing.T) {
	for what, l := range wrongBatches() {
		for _, m := range []*like{newLike(mustLoad(t, 1000)), newLike(mustLoad(t, 20)), made(t, edit.Version{Gen: 1, Log: most, Seq: 5}, laid{0, 0, list("a5=x")}).logged(most, nil, "a=y")} {
			b := opened(t, m)
			want(t, what, b.write(l), api.ErrArg)
			b.holds(what)
			off(t, b.d)
			if n, f := b.e.Write(l); n != 0 || f != api.ErrArg {
				t.Errorf("%s, the power off: %d %v", what, n, f)
			}
		}
	}
}

// P13.2: behind the last Seq nothing is written.
func TestWriteLast(t *testing.T) {
	b := opened(t, made(t, edit.Version{Gen: 1, Seq: most - 2}))
	b.writes("a=x", "a=y")
	if b.e.Seq() != most {
		t.Error(b.e.Seq())
	}
	for range 2 {
		want(t, "Write", b.write(changes("a=z")), api.ErrArg)
		want(t, "Write", b.write(nil), api.ErrArg)
	}
	b.holds("the last Seq")
	want(t, "Flush", b.flush(), api.OK)
	b.holds("flushed")
	b.reopen()
	b.holds("opened again")
	want(t, "Write", b.write(changes("a=z")), api.ErrArg)
	for _, m := range []*like{made(t, edit.Version{Gen: 1, Seq: most}), made(t, edit.Version{Gen: 1, Seq: most - 1}).logged(0, nil, "q=x")} {
		want(t, "Write", opened(t, m).write(changes("a=z")), api.ErrArg)
	}
}

// P13.2: room for the batch that is just enough, and one byte less: to a new segment, and to one that is there.
func TestWriteRoom(t *testing.T) {
	t.Parallel()
	for _, l := range [][]Change{changes("a=x"), big(256, 0, 1024), {{Key: sample(64), Gone: true}}} {
		for _, first := range []int{0, 1} {
			m := newLike(mustLoad(t, roomOfAll, sure("other", sample(7))))
			before := opened(t, m)
			for range first {
				before.writes("q=x")
			}
			after := before.m.copied()
			after.write(l)
			for _, less := range []int{0, 1, 2, after.need} {
				b := &both{t: t, m: newLike(mustLoad(t, roomOfAll, sure("other", sample(7))))}
				b.m.d = mustLoad(t, costs(before.d.Dump()...)+after.need-less, sure("other", sample(7)))
				b.d = twin(b.m.d)
				b.reopen()
				for range first {
					b.writes("q=x")
				}
				f := b.write(l)
				if (f == api.OK) != (less == 0) || f != api.OK && f != api.ErrNoSpace {
					t.Errorf("%d bytes less than needed: %v", less, f)
				}
				b.holds("room")
				b.reopen()
				b.holds("opened again")
			}
		}
	}
}

// P13.3: Get and Scan below, at, between and above the Seqs, over memory and tables.
func TestRead(t *testing.T) {
	m := made(t, edit.Version{Gen: 3, Log: 2, Seq: 19},
		laid{8, 0, list("b17=h d16! e18=h")}, laid{7, 0, list("b13=g c14=g f15!")}, laid{4, 1, list("a9=d b10! c8=d")}, laid{5, 1, list("d9=e e7=e")}, laid{1, 3, list("a2=a b1=a c3=a d4=a f5=a")})
	m.logged(2, nil, "a!", "b=m", "c=m d=m", "g=m")
	b := opened(t, m)
	m = b.m
	var seqs []int
	for seq := -1; seq < 26; seq++ {
		seqs = append(seqs, seq)
	}
	m.holds(t, "rows of all kinds", b.e, append(seqs, math.MinInt, math.MaxInt)...)
	for _, c := range []struct {
		key  string
		seq  int
		want string
	}{
		{"a", 23, "-"}, {"a", 20, "-"}, {"a", 19, "d"}, {"a", 9, "d"}, {"a", 8, "a"}, {"a", 2, "a"}, {"a", 1, "-"}, {"b", 21, "m"}, {"b", 20, "h"}, {"b", 16, "g"}, {"b", 12, "-"}, {"b", 10, "-"}, {"b", 9, "a"},
		{"b", 0, "-"}, {"d", 22, "m"}, {"d", 21, "-"}, {"d", 15, "e"}, {"d", 8, "a"}, {"f", 23, "-"}, {"f", 14, "a"}, {"g", 23, "m"}, {"g", 22, "-"}, {"h", 23, "-"}, {"", 23, "-"}, {"aa", 23, "-"},
	} {
		v, f := b.e.Get([]byte(c.key), c.seq)
		if f == api.ErrNone && v == nil {
			v = []byte("-")
		}
		if string(v) != c.want {
			t.Errorf("Get(%s, %d): %q %v, not %s", c.key, c.seq, v, f, c.want)
		}
	}
	for _, c := range []struct {
		from, to string
		seq      int
		want     string
	}{
		{"", "", 23, "b21=m c22=m d22=m e18=h g23=m"}, {"", "", 19, "a9=d b17=h c14=g e18=h"}, {"", "", 5, "a2=a b1=a c3=a d4=a f5=a"}, {"", "", 0, ""}, {"", "", -1, ""},
		{"b", "e", 23, "b21=m c22=m d22=m"}, {"b", "b", 23, ""}, {"e", "b", 23, ""}, {"bb", "dd", 23, "c22=m d22=m"}, {"c", "", 19, "c14=g e18=h"}, {"", "c", 19, "a9=d b17=h"}, {"h", "", 23, ""},
	} {
		if got := b.e.Scan([]byte(c.from), []byte(c.to), c.seq); !allAlike(got, list(c.want)) {
			t.Errorf("Scan(%s, %s, %d): %s, not %s", c.from, c.to, c.seq, told(got), c.want)
		}
	}
	if !allAlike(b.e.Scan(nil, nil, 19), b.e.Scan([]byte{}, []byte{}, 19)) {
		t.Error("bounds without bytes")
	}
}

// P13.2: Newest over memory and tables, of what is Gone, too.
func TestNewest(t *testing.T) {
	m := made(t, edit.Version{Gen: 3, Log: 2, Seq: 19}, laid{8, 0, list("b17=h d16!")}, laid{7, 0, list("b18=g c14=g")}, laid{1, 3, list("a2=a b1=a z19!")}).logged(2, nil, "a!", "y=x")
	b := opened(t, m)
	for key, seq := range map[string]int{"a": 20, "b": 18, "c": 14, "d": 16, "y": 21, "z": 19, "": 0, "aa": 0, "bb": 0, "zz": 0, string(sample(65)): 0} {
		if n := b.e.Newest([]byte(key)); n != seq {
			t.Errorf("Newest(%q): %d, not %d", key, n, seq)
		}
	}
	if n := b.e.Newest(nil); n != 0 {
		t.Error(n)
	}
}

// P13.4: a Seq pinned twice, a seventeenth one, Unpin of what is not pinned.
func TestPin(t *testing.T) {
	b := begin(t, roomOfAll)
	for _, seq := range []int{0, 1, -1, math.MaxInt, math.MinInt} {
		want(t, "nothing is pinned", b.unpin(seq), api.ErrArg)
	}
	for i := range 16 {
		for range i%3 + 1 {
			if n, f := b.pin(); n != i || f != api.OK {
				t.Error(i, n, f)
			}
		}
		b.writes("a=x")
	}
	for range 3 {
		if n, f := b.pin(); n != 0 || f != api.ErrArg {
			t.Error("a seventeenth Seq:", n, f)
		}
	}
	want(t, "the seventeenth is not pinned", b.unpin(16), api.ErrArg)
	want(t, "twice", b.unpin(4), api.OK)
	if _, f := b.pin(); f != api.ErrArg {
		t.Error("Seq 4 is pinned once more:", f)
	}
	want(t, "once more", b.unpin(4), api.OK)
	want(t, "no more", b.unpin(4), api.ErrArg)
	for range 3 {
		if n, f := b.pin(); n != 16 || f != api.OK {
			t.Error(n, f)
		}
	}
	b.writes("a=y")
	if _, f := b.pin(); f != api.ErrArg {
		t.Error("16 others are pinned:", f)
	}
	for i := range 16 {
		for b.unpin(i) == api.OK {
		}
	}
	for range 3 {
		want(t, "the last", b.unpin(16), api.OK)
	}
	want(t, "none is left", b.unpin(16), api.ErrArg)
}

// P13.4: the sixteenth Seq is pinned again while all sixteen are.
func TestPinAgain(t *testing.T) {
	b := begin(t, roomOfAll)
	for range 15 {
		b.pin()
		b.writes("a=x")
	}
	for range 5 {
		if n, f := b.pin(); n != 15 || f != api.OK {
			t.Error(n, f)
		}
	}
	want(t, "Flush", b.flush(), api.OK)
	for seq := range 16 {
		b.m.holds(t, "all are pinned", b.e, seq)
	}
	b.reopen() // pins are not kept by the disk
	for seq := range 16 {
		want(t, "opened again", b.unpin(seq), api.ErrArg)
	}
	b.holds("opened again")
}

// P13.5: Flush of no entry, of some, of none that is kept; with tables there and without.
func TestFlush(t *testing.T) {
	b := begin(t, roomOfAll)
	want(t, "no entry", b.flush(), api.ErrNothing)
	if b.d.Ops() != 0 {
		t.Error(b.d.Ops())
	}
	b.writes("a=x b=y", "a=z c!")
	want(t, "the first", b.flush(), api.OK)
	b.holds("the first")
	if v := b.e.Version(); !versionsAlike(v, edit.Version{Gen: 1, Next: 1, Log: 1, Seq: 2, Tables: []edit.Meta{{Num: 0, Count: 2, First: []byte("a"), Last: []byte("b")}}}) {
		t.Error(toldVersion(v)) // c is Gone, and there are no tables
	}
	want(t, "no entry again", b.flush(), api.ErrNothing)
	b.writes("b! d!", "a=q")
	want(t, "the second", b.flush(), api.OK)
	b.holds("the second")
	if v := b.e.Version(); len(v.Tables) != 2 || v.Tables[0].Count != 3 || v.Tables[0].Num != 1 || v.Log != 2 || v.Seq != 4 {
		t.Error(toldVersion(v)) // what is Gone is kept, since there is a table
	}
	if l := b.d.Names(); !slices.Equal(l, []string{"cur", man(2), tab(0), tab(1)}) {
		t.Error(l)
	}
	b.writes("e=x")
	if l := b.d.Names(); !slices.Equal(l, []string{"cur", man(2), tab(0), tab(1), seg(2)}) {
		t.Error(l)
	}
	b.reopen()
	b.holds("opened again")
	b.writes("f=x") // the segment is 3 by now
	want(t, "two segments at once", b.flush(), api.OK)
	if v := b.e.Version(); v.Log != 4 || b.d.Has(seg(2)) || b.d.Has(seg(3)) {
		t.Error(toldVersion(v), b.d.Names())
	}
	b.holds("the third")
}

// P13.5: a Flush of which nothing is kept makes a version without a table.
func TestFlushGone(t *testing.T) {
	b := begin(t, roomOfAll)
	b.writes("a! b!", "c=x", "c!")
	want(t, "Flush", b.flush(), api.OK)
	b.holds("flushed")
	if v := b.e.Version(); !versionsAlike(v, edit.Version{Gen: 1, Log: 1, Seq: 3}) || b.e.Seq() != 3 || b.e.Waiting() != 0 || b.e.Newest([]byte("c")) != 0 {
		t.Error(toldVersion(v))
	}
	b.reopen()
	b.holds("opened again")
	b.writes("d=x")
	want(t, "Flush", b.flush(), api.OK)
	b.holds("flushed again")
}

// P13.5: what pins see is kept, all else but the newest is not.
func TestFlushPins(t *testing.T) {
	b := begin(t, roomOfAll)
	b.writes("a=p b=p", "a=q")
	b.pin()
	b.writes("a=r c!", "a=s b!")
	b.pin()
	b.pin()
	b.writes("a! b=t", "a=u c=u")
	b.unpin(4)
	if n := b.e.Waiting(); n != 11 {
		t.Error(n)
	}
	want(t, "Flush", b.flush(), api.OK)
	b.holds("flushed")
	if got, want := b.e.tables[0].All(), list("a6=u a4=s a2=q b5=t b4! b1=p c6=u"); !allAlike(got, want) {
		t.Errorf("%s, not %s", told(got), told(want))
	}
	b.unpin(4)
	b.writes("a=v", "b!")
	want(t, "Flush", b.flush(), api.OK)
	b.holds("flushed again")
	if got, want := b.e.tables[1].All(), list("a7=v b8!"); !allAlike(got, want) {
		t.Errorf("%s, not %s", told(got), told(want))
	}
}

// P13.5: at the bottom what is Gone stays, if a pin sees something behind it.
func TestFlushGonePinned(t *testing.T) {
	b := begin(t, roomOfAll)
	b.writes("a=p b!")
	b.pin()
	b.writes("a!", "b! c!")
	want(t, "Flush", b.flush(), api.OK)
	if got, want := b.e.tables[0].All(), list("a2! a1=p"); !allAlike(got, want) {
		t.Errorf("%s, not %s", told(got), told(want))
	}
	b.holds("flushed")
}

// P13.5: more entries than a table has; no key's are parted.
func TestFlushMany(t *testing.T) {
	t.Parallel()
	for _, n := range []int{1, 63, 64, 65, 128, 129, 256} {
		b := begin(t, roomOfAll)
		b.write(big(n, 0, 40))
		want(t, "Flush", b.flush(), api.OK)
		b.holds(fmt.Sprint(n, " keys"))
		if v := b.e.Version(); len(v.Tables) != (n+63)/64 || v.Next != len(v.Tables) {
			t.Error(n, toldVersion(v))
		}
		b.write(big(n, n/2, 1024)) // files of many chunks
		b.write(big(n, n/3, 1))
		want(t, "Flush", b.flush(), api.OK)
		b.holds("flushed again")
		b.reopen()
		b.holds("opened again")
	}
	b := begin(t, roomOfAll)
	for i := range 16 { // 17 versions of each of eight keys: three keys a table
		b.write(big(8, 0, i))
		b.pin()
	}
	b.write(big(8, 0, 20))
	want(t, "Flush", b.flush(), api.OK)
	b.holds("versions")
	if v := b.e.Version(); len(v.Tables) != 3 || v.Tables[0].Count != 34 || v.Tables[1].Count != 51 || v.Tables[2].Count != 51 {
		t.Error(toldVersion(v))
	}
	b.reopen()
	b.holds("opened again")
}

// P13.6: which level is compacted, and ErrNothing.
func TestCompactLevels(t *testing.T) {
	t.Parallel()
	tables := func(counts ...int) []laid {
		var out []laid
		n := 10
		for level, count := range counts {
			for i := range count {
				out = append(out, laid{n, level, row(2, 2*i, n)})
				n++
			}
		}
		return out
	}
	v := edit.Version{Gen: 7, Next: 50, Log: 4, Seq: 49}
	for _, c := range []struct {
		counts []int
		level  int // of the new tables; 0: nothing is to be done
	}{
		{nil, 0}, {[]int{1}, 0}, {[]int{3}, 0}, {[]int{3, 3, 3, 9}, 0}, {[]int{0, 0, 0, 4}, 0}, {[]int{0, 3, 0, 4}, 0},
		{[]int{4}, 1}, {[]int{5}, 1}, {[]int{9}, 1}, {[]int{4, 1}, 1}, {[]int{4, 4, 4, 4}, 1}, {[]int{4, 0, 4}, 1}, {[]int{4, 0, 1}, 1}, {[]int{4, 0, 0, 1}, 1}, {[]int{4, 3, 3, 3}, 1},
		{[]int{3, 4}, 2}, {[]int{0, 4}, 2}, {[]int{0, 7, 2}, 2}, {[]int{3, 4, 5}, 2}, {[]int{3, 4, 0, 1}, 2}, {[]int{0, 4, 4, 4}, 2},
		{[]int{3, 3, 4}, 3}, {[]int{0, 0, 4}, 3}, {[]int{3, 3, 6, 9}, 3}, {[]int{0, 0, 4, 4}, 3},
	} {
		m := made(t, v, tables(c.counts...)...).logged(4, nil, "k00000=m q=m", "k00001!")
		b := opened(t, m)
		b.holds("ahead of it")
		f := b.compact()
		b.holds(fmt.Sprint("compacted ", c.counts))
		if c.level == 0 {
			want(t, fmt.Sprint(c.counts), f, api.ErrNothing)
			continue
		}
		got := b.e.Version()
		if f != api.OK || got.Gen != 8 || got.Log != 4 || got.Seq != 49 || got.Next != 51 || b.e.Waiting() != 3 || b.e.Seq() != 51 {
			t.Errorf("%v: %v %s", c.counts, f, toldVersion(got))
		}
		for _, n := range got.Tables {
			if n.Level == c.level-1 || n.Level == c.level && n.Num != 50 {
				t.Errorf("%v: %s", c.counts, toldVersion(got))
			}
		}
		b.writes("z=x")
		if !b.d.Has(seg(5)) {
			t.Error("the segment is another one:", b.d.Names())
		}
		b.reopen()
		b.holds("opened again")
	}
}

// P13.6: what is Gone stays, if a level further below has a table, and goes, if none has; pins see what they saw.
func TestCompactBottom(t *testing.T) {
	v := edit.Version{Gen: 7, Next: 50, Log: 4, Seq: 49}
	four := []laid{{10, 0, list("a40! b41=x")}, {9, 0, list("b30! c31!")}, {8, 0, list("a25=y c22=z")}, {7, 0, list("d20!")}}
	for _, c := range []struct {
		more []laid
		pins []int
		want string
	}{
		{nil, nil, "b41=x"},
		{nil, []int{30}, "a40! a25=y b41=x c31! c22=z"},
		{nil, []int{24}, "b41=x c31! c22=z"},
		{nil, []int{20}, "b41=x"},
		{[]laid{{1, 1, list("d3=x e4!")}}, nil, "b41=x"},
		{[]laid{{1, 1, list("d3=x e4!")}}, []int{5}, "b41=x d20! d3=x"},
		{[]laid{{1, 2, list("z1=x")}}, nil, "a40! b41=x c31! d20!"},
		{[]laid{{1, 3, list("z1=x")}}, nil, "a40! b41=x c31! d20!"},
		{[]laid{{1, 1, list("d3=x e4!")}, {2, 3, list("e1=x")}}, nil, "a40! b41=x c31! d20! e4!"},
		{[]laid{{1, 1, list("d3=x e4!")}, {2, 2, list("e1=x")}}, []int{20, 30}, "a40! a25=y b41=x b30! c31! c22=z d20! e4!"},
	} {
		b := opened(t, made(t, v, append(four, c.more...)...))
		for _, pin := range c.pins {
			b.m.pins[pin], b.e.pins[pin] = 1, 1
		}
		want(t, "Compact", b.compact(), api.OK)
		if got := b.e.tables[50].All(); !allAlike(got, list(c.want)) {
			t.Errorf("with %v, pins %v: %s, not %s", c.more, c.pins, told(got), c.want)
		}
		b.holds("compacted")
		b.reopen()
		b.holds("opened again")
	}
}

// P13.6: a Compact of which nothing is kept leaves no table of both levels.
func TestCompactGone(t *testing.T) {
	b := begin(t, roomOfAll)
	b.writes("a=x")
	b.flush()
	for range 3 {
		b.writes("a!")
		want(t, "Flush", b.flush(), api.OK)
	}
	want(t, "Compact", b.compact(), api.OK)
	b.holds("compacted")
	if v := b.e.Version(); len(v.Tables) != 0 || v.Gen != 5 || v.Next != 4 {
		t.Error(toldVersion(v))
	}
	if l := b.d.Names(); !slices.Equal(l, []string{"cur", man(5)}) {
		t.Error(l)
	}
	b.reopen()
	b.holds("opened again")
}

// P13.6: of entries of one Key and Seq the first table's is kept.
func TestCompactAlike(t *testing.T) {
	b := opened(t, made(t, edit.Version{Gen: 7, Next: 50, Seq: 49}, laid{10, 0, list("a4=p")}, laid{12, 0, list("a4=q b2=q")}, laid{11, 0, list("b2=r c2=r")}, laid{13, 0, list("d1=x")}, laid{14, 1, list("a4=s c2=s d1=s e1=s")}))
	want(t, "Compact", b.compact(), api.OK)
	if got, want := b.e.tables[50].All(), list("a4=q b2=q c2=r d1=x e1=s"); !allAlike(got, want) {
		t.Errorf("%s, not %s", told(got), told(want))
	}
	b.m.holds(t, "compacted", b.e, 0, 1, 2, 3, 4, 5)
}

// P13.6: many tables become many, and go on level by level.
func TestCompactMany(t *testing.T) {
	t.Parallel()
	b := begin(t, roomOfAll)
	var levels [4]int
	for i := range 60 {
		b.write(append(big(90, i*37%700, 2), change("hot=x")))
		want(t, "Flush", b.flush(), api.OK)
		if i%11 == 0 {
			b.pin()
		}
		for level := b.least(); b.compact() == api.OK; level = b.least() {
			levels[level]++
		}
		if i%20 == 19 {
			b.holds("compacted")
			b.reopen()
		}
	}
	if levels[0] == 0 || levels[1] == 0 || levels[2] == 0 {
		t.Error("levels that were compacted:", levels)
	}
}

// least is the least level that has four tables, or 3.
func (b *both) least() int {
	for level := range 3 {
		if len(edit.Level(b.m.version, level)) >= 4 {
			return level
		}
	}
	return 3
}

// P13.7: edit.Apply's error, ahead of that there is no room: numbers that are over, and notes that are too many.
func TestApplyError(t *testing.T) {
	four := []laid{{1, 0, list("a1")}, {2, 0, list("a2")}, {3, 0, list("a3")}, {4, 0, list("b1")}}
	for what, c := range map[string]struct {
		v              edit.Version
		segment        int
		flush, compact api.Errno
	}{
		"the last Gen":           {edit.Version{Gen: most, Log: 4, Seq: 9}, 4, api.ErrArg, api.ErrArg},
		"the last but one":       {edit.Version{Gen: most - 1, Log: 4, Seq: 9}, 4, api.OK, api.ErrArg},
		"the last Next":          {edit.Version{Gen: 1, Next: most, Log: 4, Seq: 9}, 4, api.ErrArg, api.ErrArg},
		"the last Next but one":  {edit.Version{Gen: 1, Next: most - 1, Log: 4, Seq: 9}, 4, api.OK, api.ErrArg},
		"the last segment":       {edit.Version{Gen: 1, Log: 4, Seq: 9}, most, api.ErrArg, api.OK},
		"the last but one but 1": {edit.Version{Gen: 1, Log: 4, Seq: 9}, most - 2, api.OK, api.OK},
		"the last but one, most": {edit.Version{Gen: 1, Log: 4, Seq: 9}, most - 1, api.ErrArg, api.OK},
		"the last Log":           {edit.Version{Gen: 1, Log: most, Seq: 9}, most, api.ErrArg, api.OK},
	} {
		m := made(t, c.v, four...).logged(c.segment, nil, "a=x")
		b := opened(t, m)
		want(t, what+": Flush", b.flush(), c.flush)
		b.holds(what)
		want(t, what+": Compact", b.compact(), c.compact)
		b.holds(what)
		b.reopen()
		b.holds(what)
		b = opened(t, m.tight(t, 0))
		if f := b.flush(); c.flush == api.ErrArg && f != api.ErrArg || c.flush == api.OK && f != api.ErrNoSpace {
			t.Errorf("%s: Flush without room: %v", what, f)
		}
		if f := b.compact(); c.v.Gen == most && f != api.ErrArg {
			t.Errorf("%s: Compact without room: %v", what, f)
		}
		b.holds(what)
	}
}

// P13.7: the greatest Next, of which nothing is asked, does no harm.
func TestApplyNothing(t *testing.T) {
	b := opened(t, made(t, edit.Version{Gen: 1, Next: most, Seq: 9}).logged(0, nil, "a!"))
	want(t, "Flush", b.flush(), api.OK)
	b.holds("flushed")
}

// P13.7: no more tables than a version may have.
func TestTooManyTables(t *testing.T) {
	t.Parallel()
	var l []laid
	for i := range 4095 {
		l = append(l, laid{i, 0, row(1, i, i)})
	}
	b := opened(t, made(t, edit.Version{Gen: 1, Seq: 4095}, l...))
	b.writes("a=x")
	want(t, "the last table", b.flush(), api.OK)
	b.writes("b=x")
	want(t, "one too many", b.flush(), api.ErrArg)
	if b.e.Waiting() != 1 || len(b.e.Version().Tables) != 4096 {
		t.Error(b.e.Waiting(), toldVersion(b.e.Version()))
	}
	want(t, "Compact", b.compact(), api.OK)
	if n := len(b.e.Version().Tables); n != 64 {
		t.Error(n)
	}
	want(t, "Flush", b.flush(), api.OK)
	if got, want := b.e.Scan(nil, nil, most), scan(b.m.ever, nil, nil, most); !allAlike(got, want) {
		t.Errorf("%s, not %s", told(got), told(want))
	}
}

// An op is a call that writes, and what the model makes of it.
type op struct {
	what  string
	call  func(e *Engine) api.Errno
	model func(m *like) ([]step, api.Errno)
}

func writeOp(l []Change) op {
	call := func(e *Engine) api.Errno { _, f := e.Write(l); return f }
	return op{fmt.Sprintf("Write of %d", len(l)), call, func(m *like) ([]step, api.Errno) { return m.write(l) }}
}

var (
	flushOp   = op{"Flush", (*Engine).Flush, (*like).flush}
	compactOp = op{"Compact", (*Engine).Compact, (*like).compact}
)

// A start is a model that is opened, some pins, and what is called then.
type start struct {
	what string
	m    *like
	pins []int
	op
}

func (s start) begin(t *testing.T, m *like) *both {
	t.Helper()
	b := opened(t, m)
	for _, pin := range s.pins {
		b.m.pins[pin], b.e.pins[pin] = 1, 1
	}
	return b
}

// starts are calls of all kinds that write.
func starts(t *testing.T) []start {
	v := edit.Version{Gen: 7, Next: 50, Log: 4, Seq: 49}
	none := func() *like { return newLike(mustLoad(t, roomOfAll)) }
	four := []laid{{13, 0, list("a40=q b42!")}, {12, 0, list("b30=x")}, {11, 0, list("a20! c21=x")}, {10, 0, list("a10=p d11=x")}}
	lower := []laid{{5, 1, list("a5=x c5=y")}, {6, 1, list("d5=z")}, {3, 2, list("b2=x e1!")}, {1, 3, list("a1=o b1=o e1=o")}}
	var wide, deep []laid
	for i := range 4 {
		wide = append(wide, laid{20 + i, 1, row(17, i*17, 9)})
		deep = append(deep, laid{30 + i, 2, row(16, i*18, 5)})
	}
	long := none()
	long.put(seg(0), framed(bodyBytes(1, big(70, 0, 100))))
	long.take(big(70, 0, 100))
	return []start{
		{"on an empty disk", none(), nil, writeOp(changes("a=x"))},
		{"behind others", none().logged(0, nil, "a=y", "b=y"), nil, writeOp(changes("a! c=x"))},
		{"of many chunks", none().logged(0, nil, "a=y"), nil, writeOp(big(20, 0, 1000))},
		{"on tables", made(t, v, append(four, lower...)...).logged(4, nil, "a=m", "e=m"), nil, writeOp(changes("a=x e!"))},
		{"of one batch", none().logged(0, nil, "a=y"), nil, flushOp},
		{"of what is Gone", none().logged(0, nil, "a=y", "a!"), nil, flushOp},
		{"of two segments", none().logged(0, nil, "a=y b=y", "c!").logged(1, []byte{9}, "a=z", "b!"), []int{1, 3}, flushOp},
		{"of many tables", long, nil, flushOp},
		{"beside tables", made(t, v, append(four, lower...)...).logged(4, nil, "a=m", "e=m b!"), []int{50}, flushOp},
		{"of level 0", made(t, v, four...).logged(4, nil, "a=m"), nil, compactOp},
		{"of level 0 into 1", made(t, v, append(four, lower...)...).logged(4, nil, "a=m"), []int{20, 35}, compactOp},
		{"of what is all Gone", made(t, v, laid{1, 0, list("a4!")}, laid{2, 0, list("a6!")}, laid{3, 0, list("a8!")}, laid{4, 0, list("b9!")}), nil, compactOp},
		{"of level 1", made(t, v, append(wide, four[:3]...)...), []int{9}, compactOp},
		{"of level 1 into 2", made(t, v, append(wide, deep...)...).logged(4, nil, "a=m"), nil, compactOp},
		{"of level 2", made(t, v, append(deep, laid{1, 3, row(20, 60, 2)})...).logged(4, nil, "a=m"), []int{2, 6}, compactOp},
	}
}

// crashedOf are what a disk may be behind a crash: nothing of what is not sure is kept, all of it but a byte, all of it, and something between.
func crashedOf(t *testing.T, d *disk.Disk) []*disk.Disk {
	t.Helper()
	seen := map[string]int{}
	var out []*disk.Disk
	for _, part := range []func(unsure int) int{
		func(int) int { return 0 },
		func(int) int { return 1 },
		func(unsure int) int { return unsure / 2 },
		func(unsure int) int { return unsure - 1 },
		func(unsure int) int { return unsure },
	} {
		var picks []int
		for _, f := range d.Dump() {
			picks = append(picks, max(0, part(len(f.Bytes)-f.Safe)))
		}
		crashed := twin(d)
		want(t, "Crash", crashed.Crash(picks), api.OK)
		if seen[files(crashed)]++; seen[files(crashed)] == 1 {
			out = append(out, crashed)
		}
	}
	return out
}

// twoOf is which of two models the engine is by its Seq and its version's Gen.
func twoOf(t *testing.T, what string, e *Engine, was, will *like) *like {
	t.Helper()
	for _, m := range []*like{was, will} {
		if e.Seq() == m.seq && e.Version().Gen == m.version.Gen {
			return m.copied()
		}
	}
	t.Fatalf("%s: Seq %d, %s, neither %d, %s, nor %d, %s", what, e.Seq(), toldVersion(e.Version()), was.seq, toldVersion(was.version), will.seq, toldVersion(will.version))
	return nil
}

// again opens a disk behind a crash: it is one of two models, and goes on as that.
func again(t *testing.T, what string, d *disk.Disk, was, will *like) {
	t.Helper()
	e, f := Open(d)
	if f != api.OK {
		t.Fatalf("%s: Open: %v: %s", what, f, brief(d))
	}
	m := twoOf(t, what, e, was, will)
	for _, name := range d.Names() {
		if stale(name, m.version) {
			t.Errorf("%s: %s is left", what, name)
		}
	}
	m.d = twin(d)
	m.open()
	b := &both{t, d, e, m}
	b.m.holds(t, what, b.e, m.seq)
	b.writes("goes=on", "a=on")
	b.flush()
	b.compact()
	b.m.follows(t, what+", gone on with", b.e)
	b.reopen()
	b.m.follows(t, what+", and opened again", b.e)
}

// P13.2, P13.5 to P13.8: cut ahead of each raw write, the disk has those ahead of it alone; what is read is as it was; opened again behind a crash the call is done, or not; and an Open that is cut, too, leaves that so.
func TestCuts(t *testing.T) {
	t.Parallel()
	for _, s := range starts(t) {
		b := s.begin(t, s.m)
		will := b.m.copied()
		steps, f := s.model(will)
		want(t, s.op.what+" "+s.what, f, api.OK)
		should := b.m.copied()
		for cut := range steps {
			what := fmt.Sprintf("%s %s, cut at %s", s.op.what, s.what, steps[cut].what)
			b := s.begin(t, s.m)
			want(t, "Cut", b.d.Cut(cut), api.OK)
			want(t, what, s.call(b.e), api.ErrPower)
			should.sameDisk(t, what, b.d)
			if !b.d.Off() {
				t.Error(what, "the power is on")
			}
			b.m.follows(t, what, b.e)
			counting, _ := cat.Load(b.d)
			if got := b.e.Version(); !versionsAlike(got, counting) {
				t.Errorf("%s: %s, and what counts is %s", what, toldVersion(got), toldVersion(counting))
			}
			for _, crashed := range crashedOf(t, b.d) {
				cutOpens(t, what, crashed, b.m, will)
				again(t, what, crashed, b.m, will)
			}
			should.do(steps[cut : cut+1])
		}
		want(t, "Cut", b.d.Cut(len(steps)), api.OK)
		want(t, s.op.what+", cut behind all", s.call(b.e), api.OK)
		will.do(steps)
		will.sameDisk(t, s.op.what, b.d)
		will.holds(t, s.op.what, b.e, b.m.seq)
		crashed := twin(b.d)
		crashed.Crash(nil)
		again(t, s.op.what+", and a crash behind it", crashed, will, will)
	}
}

// cutOpens opens copies of a disk, cut ahead of each raw write.
func cutOpens(t *testing.T, what string, d *disk.Disk, was, will *like) {
	t.Helper()
	for cut := 0; ; cut++ {
		d := twin(d)
		want(t, "Cut", d.Cut(cut), api.OK)
		e, f := Open(d)
		if f == api.OK {
			twoOf(t, what, e, was, will)
			return
		}
		if f != api.ErrPower || e != nil || d.Ops() != cut {
			t.Fatalf("%s: an Open that is cut: %v", what, f)
		}
		d.Crash(nil)
		again(t, what+", and at an Open", d, was, will)
	}
}

// P13.7: an engine that is not opened again, behind a Flush or a Compact that was cut off, does it anew: what lies about is no beginning of its tables.
func TestGoesOn(t *testing.T) {
	t.Parallel()
	for _, s := range starts(t) {
		if strings.HasPrefix(s.op.what, "Write") {
			continue
		}
		steps, _ := s.model(s.begin(t, s.m).m)
		for cut := range steps {
			for _, pick := range []int{0, 1, -1} {
				b := s.begin(t, s.m)
				what := fmt.Sprintf("%s %s, cut at %s", s.op.what, s.what, steps[cut].what)
				want(t, "Cut", b.d.Cut(cut), api.OK)
				want(t, what, s.call(b.e), api.ErrPower)
				want(t, "Crash", b.d.Crash(slices.Repeat([]int{pick}, 40)), api.OK)
				if n, f := b.e.Write(changes("goes=on")); n != b.m.seq+1 || f != api.OK {
					t.Fatalf("%s: Write: %d %v", what, n, f)
				}
				b.m.take(changes("goes=on"))
				want(t, what+": Flush", b.e.Flush(), api.OK)
				if f := b.e.Compact(); f != api.OK && f != api.ErrNothing {
					t.Errorf("%s: Compact: %v", what, f)
				}
				b.m.follows(t, what, b.e)
				e, f := Open(b.d)
				if f != api.OK || e.Seq() != b.m.seq {
					t.Fatalf("%s: Open: %v", what, f)
				}
				b.m.pins = nil
				b.m.follows(t, what+", opened again", e)
			}
		}
	}
}

// P13.7: also what takes away a table that was cut off may be cut.
func TestGoesOnCut(t *testing.T) {
	b := begin(t, roomOfAll)
	b.write(big(64, 0, 1000))
	for _, cut := range []int{3, 0, 5, 0, 0, 1, 2} {
		want(t, "Cut", b.d.Cut(cut), api.OK)
		want(t, "Flush", b.e.Flush(), api.ErrPower)
		b.holds("cut off")
		want(t, "Crash", b.d.Crash(slices.Repeat([]int{2000}, 40)), api.OK)
	}
	want(t, "Flush", b.e.Flush(), api.OK)
	b.m.flush()
	b.holds("gone on with")
	e, f := Open(b.d)
	want(t, "Open", f, api.OK)
	b.m.holds(t, "opened again", e, b.m.seq)
}

// P13.2, P13.7: room that is just enough, and one byte less: nothing is done then.
func TestRoom(t *testing.T) {
	t.Parallel()
	for _, s := range starts(t) {
		after := s.begin(t, s.m)
		_, f := s.model(after.m)
		want(t, s.what, f, api.OK)
		for _, less := range []int{0, 1, 2, 17, after.m.need} {
			b := s.begin(t, s.m.tight(t, after.m.need-less))
			what := fmt.Sprintf("%s %s, %d bytes less", s.op.what, s.what, less)
			steps, f := s.model(b.m)
			want(t, what, s.call(b.e), f)
			if (f == api.OK) != (less == 0) || f != api.OK && f != api.ErrNoSpace {
				t.Errorf("%s: %v", what, f)
			}
			b.m.do(steps)
			b.m.sameDisk(t, what, b.d)
			b.holds(what)
			if f != api.OK && b.d.Ops() > 0 {
				t.Errorf("%s: %d raw writes", what, b.d.Ops())
			}
			b.reopen()
			b.holds(what + ", opened again")
		}
	}
}

// P13.5, P13.6: with the power off nothing is done, whatever there is.
func TestOff(t *testing.T) {
	for _, s := range starts(t) {
		b := s.begin(t, s.m)
		off(t, b.d)
		for range 2 {
			want(t, s.what, s.call(b.e), api.ErrPower)
			b.m.sameDisk(t, s.what, b.d)
			b.holds(s.what)
		}
	}
}

// P13.8: all rows of a few calls, of one key.
func TestRows(t *testing.T) {
	t.Parallel()
	const calls = 5
	letters := "wgpuf"
	for n := range 3125 {
		b := begin(t, roomOfAll)
		b.writes("a=o")
		for range calls {
			b.call(letters[n%5])
			n /= 5
		}
		b.holds("calls")
		b.reopen()
		b.holds("opened again")
	}
}

func (b *both) call(letter byte) {
	b.t.Helper()
	switch letter {
	case 'w':
		b.writes(fmt.Sprintf("a=%c", 'a'+b.m.seq))
	case 'g':
		b.writes("a!")
	case 'p':
		b.pin()
	case 'u':
		b.unpin(slices.Min(append(b.m.pinned(), b.m.seq)))
	case 'f':
		b.flush()
	}
}

// anyBatch is a batch of a few keys, or, now and then, none.
func anyBatch(r *rand.Rand) []Change {
	var out []Change
	for range 1 + r.IntN(4)*r.IntN(4) {
		c := Change{Key: []byte{byte('a' + r.IntN(8))}, Gone: r.IntN(3) == 0}
		if r.IntN(4) == 0 {
			c.Key = append(c.Key, sample(r.IntN(64))...)
		}
		if !c.Gone {
			c.Value = sample(r.IntN(20) * r.IntN(20))
		}
		if r.IntN(30) == 0 || !slices.ContainsFunc(out, func(o Change) bool { return bytes.Equal(o.Key, c.Key) }) {
			out = append(out, c)
		}
	}
	return out
}

// P13.1 to P13.8: long walks, each call's answer and raw writes held against the chapter's words.
func TestWalks(t *testing.T) {
	t.Parallel()
	r := rand.New(rand.NewPCG(13, 1))
	for range 16 {
		b := begin(t, []int{3000, 8000, 20000, 200000}[r.IntN(4)])
		for range 120 {
			switch r.IntN(12) {
			case 0, 1, 2, 3, 4:
				b.write(anyBatch(r))
			case 5, 6, 7:
				b.flush()
			case 8:
				b.compact()
			case 9:
				b.pin()
			case 10:
				b.unpin(b.m.seq - r.IntN(9))
			default:
				if r.IntN(4) == 0 {
					b.reopen()
				}
			}
			if r.IntN(10) == 0 {
				b.holds("a walk")
			}
		}
		b.holds("a walk's end")
	}
}

// crashes is a walk with cuts and crashes: behind each the engine has all that was answered for, and what was going on, or not.
func crashes(t *testing.T, steps []byte) {
	b := begin(t, 30000)
	var maybe *like // what was going on when the power went
	for len(steps) >= 2 {
		x, y := int(steps[0]), int(steps[1])
		steps = steps[2:]
		o := compactOp
		switch x % 8 {
		case 0, 1, 2:
			o = writeOp([]Change{{Key: []byte{byte('a' + y%5)}, Gone: y%7 == 0}, {Key: []byte("q"), Value: sample(x * y % 1000)}})
		case 3, 4:
			o = flushOp
		case 5:
			want(t, "Cut", b.d.Cut(y%30), api.OK)
			continue
		case 6:
			if y < 60 {
				b.d.Crash([]int{y, -y, x * y, 3 * x, 7, 0, y, -1})
				b.crashed(maybe)
				maybe = nil
			} else if seq := b.m.seq - y%5; y < 120 {
				want(t, "Unpin", b.e.Unpin(seq), b.m.unpin(seq))
			} else {
				_, f := b.e.Pin()
				_, g := b.m.pin()
				want(t, "Pin", f, g)
			}
			continue
		}
		went := b.d.Off()
		will := b.m.copied()
		todo, f := o.model(will)
		got := o.call(b.e)
		switch {
		case went:
			want(t, o.what+" with the power off", got, api.ErrPower)
		case b.d.Off():
			want(t, o.what+", cut", got, api.ErrPower)
			maybe = will
		default:
			if got != f {
				t.Fatalf("%s: %v, not %v", o.what, got, f)
			}
			will.do(todo)
			b.m = will
			b.m.sameDisk(t, o.what, b.d)
		}
		b.m.follows(t, o.what, b.e)
	}
	b.d.Crash(nil)
	b.crashed(maybe)
}

// crashed opens again behind a crash.
func (b *both) crashed(maybe *like) {
	b.t.Helper()
	e, f := Open(b.d)
	if f != api.OK {
		b.t.Fatalf("Open behind a crash: %v: %s", f, brief(b.d))
	}
	if maybe == nil {
		maybe = b.m
	}
	b.e, b.m = e, twoOf(b.t, "a crash", e, b.m, maybe)
	b.m.d = twin(b.d)
	b.m.open()
	b.holds("a crash")
}

// P13.8: long walks through cuts and crashes.
func TestCrashes(t *testing.T) {
	t.Parallel()
	r := rand.New(rand.NewPCG(13, 8))
	for range 60 {
		steps := make([]byte, 300)
		for i := range steps {
			steps[i] = byte(r.Uint32())
		}
		crashes(t, steps)
	}
}

// none are engines that Open has not made.
func none() []*Engine { return []*Engine{nil, {}, new(Engine)} }

// P13.1, R1: what an engine answers that is none.
func TestNone(t *testing.T) {
	for _, e := range none() {
		for range 2 {
			for what, l := range wrongBatches() {
				if n, f := e.Write(l); n != 0 || f != api.ErrArg {
					t.Errorf("Write of %s: %d %v", what, n, f)
				}
			}
			if n, f := e.Write(changes("a=x")); n != 0 || f != api.ErrArg {
				t.Errorf("Write: %d %v", n, f)
			}
			for _, seq := range []int{0, 1, -1, math.MaxInt, math.MinInt} {
				for _, key := range [][]byte{nil, {}, []byte("a"), sample(1000)} {
					if v, f := e.Get(key, seq); v != nil || f != api.ErrArg {
						t.Errorf("Get: %q %v", v, f)
					}
					if l := e.Scan(key, nil, seq); l != nil {
						t.Errorf("Scan: %s", told(l))
					}
					if n := e.Newest(key); n != 0 {
						t.Errorf("Newest: %d", n)
					}
				}
				want(t, "Unpin", e.Unpin(seq), api.ErrArg)
			}
			if n, f := e.Pin(); n != 0 || f != api.ErrArg {
				t.Errorf("Pin: %d %v", n, f)
			}
			want(t, "Flush", e.Flush(), api.ErrArg)
			want(t, "Compact", e.Compact(), api.ErrArg)
			if v := e.Version(); !versionsAlike(v, edit.Version{}) || v.Tables != nil || e.Seq() != 0 || e.Waiting() != 0 {
				t.Error(toldVersion(v), e.Seq(), e.Waiting())
			}
		}
	}
}

// R1: arguments of all kinds turn nothing, and nothing panics.
func TestArguments(t *testing.T) {
	b := opened(t, made(t, edit.Version{Gen: 3, Log: 2, Seq: 9}, laid{4, 0, list("a9=x b3=y")}).logged(2, nil, "c=z", "a!"))
	for _, key := range [][]byte{nil, {}, {0}, []byte("a"), []byte("b"), {255}, sample(64), sample(65), sample(1 << 16)} {
		for _, seq := range []int{math.MinInt, -most, -1, 0, 9, 11, most, most + 1, math.MaxInt} {
			all := b.m.all()
			v, f := b.e.Get(key, seq)
			if w, g := get(all, key, seq); f != g || !bytes.Equal(v, w) {
				t.Errorf("Get(%.9q, %d): %q %v", key, seq, v, f)
			}
			for _, to := range [][]byte{nil, {}, {0}, []byte("c"), sample(70)} {
				if got, want := b.e.Scan(key, to, seq), scan(all, key, to, seq); !allAlike(got, want) {
					t.Errorf("Scan(%.9q, %.9q, %d): %s", key, to, seq, told(got))
				}
			}
			if n := b.e.Newest(key); n != newest(all, key) {
				t.Errorf("Newest(%.9q): %d", key, n)
			}
			want(t, "Unpin", b.e.Unpin(seq), api.ErrArg)
		}
	}
	b.holds("behind all that")
	b.m.sameDisk(t, "behind all that", b.d)
}

// roomy are the same bytes with room behind them, all of it full of 170; nil stays nil.
func roomy(b []byte) []byte {
	if b == nil {
		return nil
	}
	out := bytes.Repeat([]byte{170}, len(b)+16)
	copy(out, b)
	return out[:len(b)]
}

// turn turns all bytes, and those of the room behind them.
func turn(b []byte) {
	b = b[:cap(b)]
	for i := range b {
		b[i] ^= 255
	}
}

func roomyChanges(l []Change) []Change {
	out := make([]Change, len(l), len(l)+3)
	for i, c := range l {
		out[i] = Change{roomy(c.Key), c.Gone, roomy(c.Value)}
	}
	return out
}

// whole tells changes with the room behind them and behind their bytes.
func whole(l []Change) string {
	s := fmt.Sprintf("%d of %d", len(l), cap(l))
	for _, c := range l[:cap(l)] {
		s += fmt.Sprintf(" / %x %v %x", c.Key[:cap(c.Key)], c.Gone, c.Value[:cap(c.Value)])
	}
	return s
}

// R3: what is handed in is as it was, and is not kept.
func TestHandedIn(t *testing.T) {
	t.Parallel()
	batches := slices.Collect(maps.Values(wrongBatches()))
	batches = append(batches, changes("c=x a=y b!"), big(256, 0, 9), big(40, 0, 1000), changes("a!"))
	b := opened(t, made(t, edit.Version{Gen: 3, Log: 2, Seq: 9}, laid{4, 0, list("a9=x b3=y")}))
	for _, l := range batches {
		in := roomyChanges(l)
		was := whole(in)
		b.write(in)
		if whole(in) != was {
			t.Errorf("Write of %d changes turns them", len(l))
		}
		for _, c := range in {
			turn(c.Key)
			turn(c.Value)
		}
		b.holds("what was handed in is turned")
	}
	b.flush()
	b.holds("flushed")
	key, to := roomy([]byte("a")), roomy([]byte("c"))
	for _, seq := range []int{0, 9, 12} {
		b.e.Get(key, seq)
		b.e.Scan(key, to, seq)
		b.e.Scan(to, key, seq)
		b.e.Newest(key)
	}
	if !bytes.Equal(key[:cap(key)], append([]byte("a"), bytes.Repeat([]byte{170}, 16)...)) || !bytes.Equal(to[:cap(to)], append([]byte("c"), bytes.Repeat([]byte{170}, 16)...)) {
		t.Errorf("%q %q", key[:cap(key)], to[:cap(to)])
	}
}

// spoil turns entries, and fills the room behind them.
func spoil(l []api.Entry) {
	for i := range l {
		turn(l[i].Key)
		turn(l[i].Value)
		l[i].Seq, l[i].Gone = ^l[i].Seq, !l[i].Gone
	}
	room := l[len(l):cap(l)]
	for i := range room {
		room[i] = api.Entry{Key: []byte("room"), Seq: -77, Value: []byte("room")}
	}
}

// spoilVersion turns a version's notes, and fills the room behind them.
func spoilVersion(v edit.Version) {
	for i := range v.Tables {
		turn(v.Tables[i].First)
		turn(v.Tables[i].Last)
		v.Tables[i].Num, v.Tables[i].Level, v.Tables[i].Count = ^v.Tables[i].Num, 9, -1
	}
	room := v.Tables[len(v.Tables):cap(v.Tables)]
	for i := range room {
		room[i] = edit.Meta{Num: -7, First: []byte("room")}
	}
}

// R3: what is answered is new memory.
func TestAnswered(t *testing.T) {
	m := made(t, edit.Version{Gen: 3, Log: 2, Seq: 19}, laid{8, 0, list("b17=hh d16! e18=h")}, laid{7, 0, list("b13=g c14=g f15!")}, laid{4, 1, list("a9=dd b10! c8=d")}, laid{1, 3, list("a2=a b1=a f5=aaa")})
	b := opened(t, m.logged(2, nil, "a=mm", "b=m g=mmm"))
	for range 2 {
		for seq := range 23 {
			for _, key := range []string{"a", "b", "c", "d", "e", "f", "g"} {
				v, _ := b.e.Get([]byte(key), seq)
				turn(v)
			}
			spoil(b.e.Scan(nil, nil, seq))
			want := b.e.Scan(nil, nil, seq)
			for i := range want {
				is := b.e.Scan(nil, nil, seq)
				spoil(is[i : i+1 : i+1])
				if !allAlike(is[:i], want[:i]) || !allAlike(is[i+1:], want[i+1:]) {
					t.Errorf("Scan at %d: the entry %d turns others", seq, i)
				}
				is = b.e.Scan(nil, nil, seq)
				turn(is[i].Key)
				if !bytes.Equal(is[i].Value, want[i].Value) {
					t.Errorf("Scan at %d: the key %d turns its value", seq, i)
				}
			}
		}
		spoilVersion(b.e.Version())
		v := b.e.Version()
		for i := range v.Tables {
			turn(v.Tables[i].First)
		}
		for i := range v.Tables {
			if !bytes.Equal(v.Tables[i].Last, b.m.version.Tables[i].Last) {
				t.Error("a First turns a Last")
			}
		}
		b.holds("answers are spoilt")
		b.m.sameDisk(t, "answers are spoilt", b.d)
		b.flush()
	}
	b.writes("a=q")
	b.flush()
	b.writes("a=r")
	b.flush()
	spoilVersion(b.e.Version())
	want(t, "Compact", b.compact(), api.OK)
	b.holds("compacted")
	b.reopen()
	b.holds("opened again")
}

// Two engines of two disks turn nothing of one another.
func TestApart(t *testing.T) {
	a, b := begin(t, roomOfAll), begin(t, roomOfAll)
	for i := range 20 {
		a.writes(fmt.Sprintf("a=x%d", i))
		if i%2 == 0 {
			b.writes(fmt.Sprintf("b=y%d", i))
			a.pin()
			b.flush()
		}
		if i%3 == 0 {
			a.flush()
			b.compact()
		}
		a.holds("the one")
		b.holds("the other")
	}
}

// Ways: pins stand in a map by Seqs, how many times each; tables in another one by their numbers.
func TestMaps(t *testing.T) {
	b := begin(t, roomOfAll)
	b.pin()
	b.writes("a=x")
	b.pin()
	b.pin()
	if !maps.Equal(b.e.pins, map[int]int{0: 1, 1: 2}) {
		t.Error(b.e.pins)
	}
	b.unpin(0)
	b.unpin(1)
	if !maps.Equal(b.e.pins, map[int]int{1: 1}) {
		t.Error(b.e.pins)
	}
	for range 4 {
		b.writes("a=y")
		b.flush()
	}
	if nums := slices.Sorted(maps.Keys(b.e.tables)); !slices.Equal(nums, []int{0, 1, 2, 3}) {
		t.Error(nums)
	}
	b.compact()
	if nums := slices.Sorted(maps.Keys(b.e.tables)); !slices.Equal(nums, []int{4}) {
		t.Error(nums) // no more is kept than the version names
	}
}

// Heights are those that a list takes, and as many as make it fast.
func TestHeights(t *testing.T) {
	var count [api.MaxHeight + 1]int
	for _, c := range big(256, 0, 0) {
		for seq := 1; seq <= 64; seq++ {
			count[height(api.Entry{Key: c.Key, Seq: seq})]++
		}
	}
	all := 256 * 64
	for h := 1; h < 7; h++ {
		if share := all >> h; count[h] < share/2 || count[h] > share*2 {
			t.Errorf("%d of %d are %d high", count[h], all, h)
		}
	}
	if count[0] != 0 {
		t.Error(count)
	}
}

// A memory of many entries is written, read and opened again in a time that does not grow by its square.
func TestLongMemory(t *testing.T) {
	d := mustLoad(t, roomOfAll)
	e, _ := Open(d)
	for i := range 300 {
		if _, f := e.Write(big(256, i*100, 10)); f != api.OK {
			t.Fatal(f)
		}
	}
	again, f := Open(d)
	want(t, "Open", f, api.OK)
	for i := range 30000 {
		key := fmt.Appendf(nil, "k%05d", i)
		if e.Newest(key) != again.Newest(key) || e.Newest(key) == 0 {
			t.Fatal(i, e.Newest(key), again.Newest(key))
		}
	}
	if again.Waiting() != 300*256 {
		t.Error(again.Waiting())
	}
	want(t, "Flush", again.Flush(), api.OK)
	if l := again.Scan(nil, nil, 300); len(l) != 300*100+156 {
		t.Error(len(l))
	}
}

// takeNum is a number of P2.1, by a reader that asks nothing of what is laid.
func takeNum(b []byte) (int, []byte, bool) {
	n := 0
	for i, x := range b {
		if i == 9 || i == 8 && x > 63 || i > 0 && x == 0 {
			return 0, nil, false
		}
		n |= int(x&127) << (7 * i)
		if x < 128 {
			return n, b[i+1:], true
		}
	}
	return 0, nil, false
}

func takeText(b []byte) ([]byte, []byte, bool) {
	n, rest, ok := takeNum(b)
	if !ok || n > len(rest) {
		return nil, nil, false
	}
	return rest[:n], rest[n:], true
}

// readChanges is a body's Seq and changes.
func readChanges(b []byte) (int, []Change, bool) {
	seq, rest, ok := takeNum(b)
	count, rest, ok2 := takeNum(rest)
	if !ok || !ok2 || seq > most || count > 256 {
		return 0, nil, false
	}
	var l []Change
	for range count {
		key, behind, ok := takeText(rest)
		if !ok || len(behind) == 0 || behind[0] > 1 {
			return 0, nil, false
		}
		value, behindAll, ok := takeText(behind[1:])
		if !ok {
			return 0, nil, false
		}
		l = append(l, Change{key, behind[0] == 1, value})
		rest = behindAll
	}
	return seq, l, len(rest) == 0 && isChanges(l)
}

// judged opens a disk with a segment of one body.
func judged(t *testing.T, body []byte) {
	t.Helper()
	e, f := Open(mustLoad(t, roomOfAll, sure(seg(0), framed(body))))
	seq, l, ok := readChanges(body)
	if !ok || seq == 0 {
		if f != api.ErrCorrupt || e != nil {
			t.Fatalf("Open with the body % .40x: %v", body, f)
		}
		return
	}
	if f != api.OK || e.Seq() != seq || e.Waiting() != len(l) {
		t.Fatalf("Open with the body % .40x: %v", body, f)
	}
	for _, c := range l {
		v, f := e.Get(c.Key, seq)
		if (f == api.ErrNone) != c.Gone || !bytes.Equal(v, c.Value) {
			t.Fatalf("of the body % .40x: %.9q: %.9q %v", body, c.Key, v, f)
		}
	}
}

// P13.1: bodies with some bytes turned, and any bytes.
func TestAnyBodies(t *testing.T) {
	r := rand.New(rand.NewPCG(13, 13))
	for range 20000 {
		body := bodyBytes(1+r.IntN(300), anyBatch(r))
		for range r.IntN(3) {
			body[r.IntN(min(len(body), 12))] = byte(r.IntN(5))
		}
		judged(t, body)
	}
	for _, body := range wrongBodies() {
		judged(t, body)
	}
}

func FuzzLsm(f *testing.F) {
	f.Add(bodyBytes(1, changes("a=x b!")), sample(60))
	f.Add(bodyBytes(most, changes("a=x")), sample(300))
	f.Add([]byte{1, 1, 1, 'a', 1, 0}, []byte("\x00\x01\x03\x00\x05\x04\x00\x09\x03\x00\x06\x01"))
	f.Fuzz(func(t *testing.T, body, steps []byte) {
		judged(t, body)
		crashes(t, steps[:min(len(steps), 400)])
	})
}
