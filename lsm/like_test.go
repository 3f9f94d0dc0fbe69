package lsm

import (
	"bytes"
	"encoding/binary"
	"fmt"
	"hash/crc32"
	"maps"
	"math"
	"regexp"
	"slices"
	"strconv"
	"strings"
	"testing"

	"sawyer/api"
	"sawyer/disk"
	"sawyer/edit"
	"sawyer/table"
)

const most = 1 << 40 // MaxNum

// word is an entry as the tests write it: its key's letters, its Seq, ! if it is Gone, and = ahead of its value.
var word = regexp.MustCompile(`^([a-z]*)(-?[0-9]+)(!?)(?:=(.*))?$`)

// list are the entries that words tell.
func list(words string) []api.Entry {
	var out []api.Entry
	for _, w := range strings.Fields(words) {
		m := word.FindStringSubmatch(w)
		seq, err := strconv.Atoi(m[2])
		if err != nil {
			panic(err)
		}
		out = append(out, api.Entry{Key: []byte(m[1]), Seq: seq, Gone: m[3] == "!", Value: []byte(m[4])})
	}
	return out
}

// change is the word a=x of a change, or a!, by which it is Gone.
func change(w string) Change {
	if key, gone := strings.CutSuffix(w, "!"); gone {
		return Change{Key: []byte(key), Gone: true}
	}
	key, value, _ := strings.Cut(w, "=")
	return Change{Key: []byte(key), Value: []byte(value)}
}

func changes(words string) []Change {
	var out []Change
	for _, w := range strings.Fields(words) {
		out = append(out, change(w))
	}
	return out
}

// told are the words of entries; other keys and values by their beginning and length.
func told(l []api.Entry) string {
	brief := func(b []byte) string {
		for _, c := range b {
			if c < 'a' || c > 'z' || len(b) > 20 {
				return fmt.Sprintf("%.9q(%d)", b, len(b))
			}
		}
		return string(b)
	}
	var out []string
	for _, e := range l {
		w := brief(e.Key) + strconv.Itoa(e.Seq)
		if e.Gone {
			w += "!"
		}
		if len(e.Value) > 0 {
			w += "=" + brief(e.Value)
		}
		out = append(out, w)
	}
	if len(out) > 40 {
		out = append(out[:40], fmt.Sprintf(".. %d in all", len(l)))
	}
	return strings.Join(out, " ")
}

func alike(a, b api.Entry) bool {
	return bytes.Equal(a.Key, b.Key) && a.Seq == b.Seq && a.Gone == b.Gone && bytes.Equal(a.Value, b.Value)
}

func allAlike(a, b []api.Entry) bool { return slices.EqualFunc(a, b, alike) }

func versionsAlike(a, b edit.Version) bool {
	return a.Gen == b.Gen && a.Next == b.Next && a.Log == b.Log && a.Seq == b.Seq && slices.EqualFunc(a.Tables, b.Tables, func(m, n edit.Meta) bool {
		return m.Num == n.Num && m.Level == n.Level && m.Count == n.Count && bytes.Equal(m.First, n.First) && bytes.Equal(m.Last, n.Last)
	})
}

func toldVersion(v edit.Version) string {
	s := fmt.Sprintf("Gen %d Next %d Log %d Seq %d:", v.Gen, v.Next, v.Log, v.Seq)
	for i, m := range v.Tables {
		if i == 20 {
			return s + fmt.Sprintf(" .. %d in all", len(v.Tables))
		}
		s += fmt.Sprintf(" %d(%d) %d %.9q-%.9q", m.Num, m.Level, m.Count, m.First, m.Last)
	}
	return s
}

// sample is n bytes that aren't alike.
func sample(n int) []byte {
	b := make([]byte, n)
	x := uint32(n)*2654435761 + 1
	for i := range b {
		x = x*1664525 + 1013904223
		b[i] = byte(x >> 24)
	}
	return b
}

func num(n int) []byte { return binary.AppendUvarint(nil, uint64(n)) }

// framed is a frame as chapter 2 has it, by Go's own library.
func framed(body []byte) []byte {
	b := num(len(body))
	sum := crc32.ChecksumIEEE(slices.Concat(b, body))
	return append(binary.BigEndian.AppendUint32(b, sum), body...)
}

func text(b []byte) []byte { return append(num(len(b)), b...) }

// bodyBytes is a batch's body by the chapter's words, whether it may be or not.
func bodyBytes(seq int, l []Change) []byte {
	b := append(num(seq), num(len(l))...)
	for _, c := range l {
		gone := byte(0)
		if c.Gone {
			gone = 1
		}
		b = slices.Concat(b, text(c.Key), []byte{gone}, text(c.Value))
	}
	return b
}

func tab(n int) string { return fmt.Sprintf("tab/%013d", n) }
func man(n int) string { return fmt.Sprintf("man/%013d", n) }
func seg(n int) string { return fmt.Sprintf("wal/%013d", n) }

// sure is a file all of whose bytes are sure.
func sure(name string, b []byte) disk.File { return disk.File{Name: name, Safe: len(b), Bytes: b} }

func costs(l ...disk.File) int {
	sum := 0
	for _, f := range l {
		sum += 16 + len(f.Name) + len(f.Bytes)
	}
	return sum
}

func manBytes(v edit.Version) []byte {
	b, e := edit.Encode(v)
	if e != api.OK {
		panic(toldVersion(v))
	}
	return framed(b)
}

func curBytes(gen int) []byte { return framed(num(gen)) }

func tableBytes(l []api.Entry) []byte {
	b, e := table.Build(l)
	if e != api.OK {
		panic(told(l))
	}
	return b
}

// A step is one raw write.
type step struct {
	what string
	do   func(d *disk.Disk) api.Errno
}

func stepRemove(name string) step {
	return step{"remove " + name, func(d *disk.Disk) api.Errno { return d.Remove(name) }}
}

// stepsOf are the raw writes that lay a file, or go on with one.
func stepsOf(name string, b []byte) []step {
	var l []step
	for len(b) > 0 {
		size := min(len(b), 4096)
		chunk := b[:size]
		l = append(l, step{fmt.Sprintf("append %d to %s", size, name), func(d *disk.Disk) api.Errno { return d.Append(name, chunk) }})
		b = b[size:]
	}
	return append(l, step{"sync " + name, func(d *disk.Disk) api.Errno { return d.Sync(name) }})
}

// numbered: is a name a folder's and 13 digits of a number up to MaxNum?
func numbered(folder, name string) (int, bool) {
	digits, ok := strings.CutPrefix(name, folder)
	n, err := strconv.Atoi(digits)
	return n, ok && err == nil && name == fmt.Sprintf("%s%013d", folder, n) && n >= 0 && n <= most
}

// stale: is a file to be cleaned away of v, by chapter 11's words?
func stale(name string, v edit.Version) bool {
	if _, ok := numbered("man/", name); ok {
		return name != man(v.Gen)
	}
	if n, ok := numbered("tab/", name); ok {
		return !slices.ContainsFunc(v.Tables, func(m edit.Meta) bool { return m.Num == n })
	}
	if n, ok := numbered("wal/", name); ok {
		return n < v.Log
	}
	return name == "cur~"
}

// cleanSteps are the raw writes of cat.Clean on a disk of these names, which are rising.
func cleanSteps(names []string, v edit.Version) []step {
	var l []step
	for _, name := range names {
		if stale(name, v) {
			l = append(l, stepRemove(name))
		}
	}
	return l
}

// turnSteps are the raw writes of P13.7 on a disk of these names, on which no file of that Gen or of these tables is.
func turnSteps(names []string, files []disk.File, v edit.Version) []step {
	var l []step
	for _, f := range files {
		l = append(l, stepsOf(f.Name, f.Bytes)...)
		names = append(slices.Clone(names), f.Name)
	}
	if slices.Contains(names, "cur~") {
		l = append(l, stepRemove("cur~"))
	}
	l = append(l, stepsOf(man(v.Gen), manBytes(v))...)
	l = append(l, stepsOf("cur~", curBytes(v.Gen))...)
	l = append(l, step{"rename", func(d *disk.Disk) api.Errno { return d.Rename("cur~", "cur") }})
	slices.Sort(names)
	isMan := func(name string) bool { _, ok := numbered("man/", name); return ok }
	for _, name := range names {
		if isMan(name) {
			l = append(l, stepRemove(name))
		}
	}
	names = slices.DeleteFunc(slices.Clone(names), func(name string) bool { return name == "cur~" || isMan(name) })
	return append(l, cleanSteps(names, v)...)
}

func ahead(a, b api.Entry) bool {
	if string(a.Key) != string(b.Key) {
		return string(a.Key) < string(b.Key)
	}
	return a.Seq > b.Seq
}

// merged are all entries in order, of one Key and Seq the first.
func merged(rows ...[]api.Entry) []api.Entry {
	all := slices.Concat(rows...)
	slices.SortStableFunc(all, func(a, b api.Entry) int {
		switch {
		case ahead(a, b):
			return -1
		case ahead(b, a):
			return 1
		}
		return 0
	})
	return slices.CompactFunc(all, func(a, b api.Entry) bool { return string(a.Key) == string(b.Key) && a.Seq == b.Seq })
}

// byKey are a row's entries, key by key.
func byKey(l []api.Entry) [][]api.Entry {
	var out [][]api.Entry
	for i, e := range l {
		if i == 0 || string(l[i-1].Key) != string(e.Key) {
			out = append(out, nil)
		}
		out[len(out)-1] = append(out[len(out)-1], e)
	}
	return out
}

// pruned is chapter 12's Prune of a row.
func pruned(l []api.Entry, pins []int, bottom bool) []api.Entry {
	var out []api.Entry
	for _, versions := range byKey(l) {
		kept := make([]int, len(versions))
		kept[0] = 1
		for _, pin := range pins {
			if at := slices.IndexFunc(versions, func(e api.Entry) bool { return e.Seq <= pin }); at >= 0 {
				kept[at] = 1
			}
		}
		for i := len(versions) - 1; bottom && i >= 0 && (kept[i] == 0 || versions[i].Gone); i-- {
			kept[i] = 0
		}
		for i, e := range versions {
			if kept[i] == 1 {
				out = append(out, e)
			}
		}
	}
	return out
}

// split is chapter 12's Split of a row by 64.
func split(l []api.Entry) [][]api.Entry {
	var out [][]api.Entry
	var piece []api.Entry
	for _, versions := range byKey(l) {
		if len(piece) > 0 && len(piece)+len(versions) > 64 {
			out, piece = append(out, piece), nil
		}
		piece = append(piece, versions...)
	}
	if len(piece) > 0 {
		out = append(out, piece)
	}
	return out
}

// like is an engine by the chapter's words, of plain lists, and its disk's files.
type like struct {
	version      edit.Version
	tables       map[int][]api.Entry
	memory       []api.Entry
	seq, segment int
	pins         map[int]int
	ever         []api.Entry // all that was written so far, whatever was pruned
	need         int         // the room that the last call had to have
	d            *disk.Disk  // a disk of its own, which has the raw writes that are asked for
}

func newLike(d *disk.Disk) *like {
	return &like{tables: map[int][]api.Entry{}, pins: map[int]int{}, d: d}
}

func (m *like) copied() *like {
	out := *m
	out.tables, out.pins = maps.Clone(m.tables), maps.Clone(m.pins)
	out.memory, out.ever = slices.Clone(m.memory), slices.Clone(m.ever)
	out.d = twin(m.d)
	return &out
}

// twin is a disk with the same files.
func twin(d *disk.Disk) *disk.Disk {
	out, e := disk.Load(d.Free()+costs(d.Dump()...), d.Dump())
	if e != api.OK {
		panic(e)
	}
	return out
}

func (m *like) all() []api.Entry {
	rows := [][]api.Entry{m.memory}
	for _, n := range m.version.Tables {
		rows = append(rows, m.tables[n.Num])
	}
	return merged(rows...)
}

// do does steps on the model's own disk.
func (m *like) do(l []step) {
	for _, s := range l {
		if e := s.do(m.d); e != api.OK {
			panic(fmt.Sprint(s.what, e))
		}
	}
}

func isChange(c Change) bool {
	return len(c.Key) >= 1 && len(c.Key) <= 64 && len(c.Value) <= 1024 && !(c.Gone && len(c.Value) > 0)
}

func isChanges(l []Change) bool {
	keys := map[string]int{}
	for _, c := range l {
		keys[string(c.Key)]++
		if !isChange(c) || keys[string(c.Key)] > 1 {
			return false
		}
	}
	return len(l) >= 1 && len(l) <= 256
}

// write is a batch's error and raw writes; without an error it is in the memory then.
func (m *like) write(l []Change) ([]step, api.Errno) {
	if !isChanges(l) || m.seq == most {
		return nil, api.ErrArg
	}
	if m.segment > most {
		return nil, api.ErrArg
	}
	frame := framed(bodyBytes(m.seq+1, l))
	m.need = len(frame)
	if !m.d.Has(seg(m.segment)) {
		m.need += 16 + len(seg(m.segment))
	}
	if m.d.Free() < m.need {
		return nil, api.ErrNoSpace
	}
	m.take(l)
	return stepsOf(seg(m.segment), frame), api.OK
}

// take lays a batch into the memory.
func (m *like) take(l []Change) {
	m.seq++
	var batch []api.Entry
	for _, c := range l {
		batch = append(batch, api.Entry{Key: bytes.Clone(c.Key), Seq: m.seq, Gone: c.Gone, Value: bytes.Clone(c.Value)})
	}
	m.memory, m.ever = merged(m.memory, batch), merged(m.ever, batch)
}

// pin is P13.4's Pin.
func (m *like) pin() (int, api.Errno) {
	others := 0
	for seq := range m.pins {
		if seq != m.seq {
			others++
		}
	}
	if others >= 16 {
		return 0, api.ErrArg
	}
	m.pins[m.seq]++
	return m.seq, api.OK
}

// unpin is P13.4's Unpin.
func (m *like) unpin(seq int) api.Errno {
	if m.pins[seq] == 0 {
		return api.ErrArg
	}
	if m.pins[seq]--; m.pins[seq] == 0 {
		delete(m.pins, seq)
	}
	return api.OK
}

// open is what an Open makes of the model, whose disk has what is sure alone: its raw writes.
func (m *like) open() []step {
	m.pins, m.segment = map[int]int{}, m.version.Log
	for _, name := range m.d.Names() {
		if n, ok := numbered("wal/", name); ok && n >= m.version.Log {
			m.segment = n + 1
		}
	}
	return cleanSteps(m.d.Names(), m.version)
}

func (m *like) pinned() []int { return slices.Collect(maps.Keys(m.pins)) }

// flush is a Flush's error and raw writes; without an error it is done in the model.
func (m *like) flush() ([]step, api.Errno) {
	if len(m.memory) == 0 {
		return nil, api.ErrNothing
	}
	v := m.version
	v.Log, v.Seq = m.segment+1, m.seq
	l, e := m.turn(v, 0, nil, pruned(m.memory, m.pinned(), len(v.Tables) == 0))
	if e == api.OK {
		m.memory, m.segment = nil, m.version.Log
	}
	return l, e
}

// compact is a Compact's error and raw writes; without an error it is done in the model.
func (m *like) compact() ([]step, api.Errno) {
	var levels [4][]edit.Meta
	for _, n := range m.version.Tables {
		levels[n.Level] = append(levels[n.Level], n)
	}
	for level := range 3 {
		if len(levels[level]) < 4 {
			continue
		}
		old := slices.Concat(levels[level], levels[level+1])
		var rows [][]api.Entry
		for _, n := range old {
			rows = append(rows, m.tables[n.Num])
		}
		bottom := level == 2 || level == 1 && len(levels[3]) == 0 || level == 0 && len(levels[2])+len(levels[3]) == 0
		return m.turn(m.version, level+1, old, pruned(merged(rows...), m.pinned(), bottom))
	}
	return nil, api.ErrNothing
}

// noteOrder is how chapter 10 has notes go.
func noteOrder(a, b edit.Meta) int {
	switch {
	case a.Level != b.Level:
		return a.Level - b.Level
	case a.Level == 0:
		return b.Num - a.Num
	}
	return bytes.Compare(a.First, b.First)
}

func noteOf(num, level int, l []api.Entry) edit.Meta {
	return edit.Meta{Num: num, Level: level, Count: len(l), First: l[0].Key, Last: l[len(l)-1].Key}
}

// turn is P13.7.
func (m *like) turn(v edit.Version, level int, old []edit.Meta, kept []api.Entry) ([]step, api.Errno) {
	tables := maps.Clone(m.tables)
	var files []disk.File
	isOld := func(n edit.Meta) bool {
		return slices.ContainsFunc(old, func(o edit.Meta) bool { return o.Num == n.Num })
	}
	v.Tables = slices.DeleteFunc(slices.Clone(v.Tables), isOld)
	for _, n := range old {
		delete(tables, n.Num)
	}
	for _, piece := range split(kept) {
		n := noteOf(v.Next, level, piece)
		v.Tables = append(v.Tables, n)
		tables[n.Num] = piece
		files = append(files, sure(tab(n.Num), tableBytes(piece)))
		v.Next++
	}
	v.Gen++
	slices.SortFunc(v.Tables, noteOrder)
	if v.Gen > most || v.Next > most || v.Log > most || len(v.Tables) > 4096 {
		return nil, api.ErrArg
	}
	m.need = costs(files...) + costs(sure(man(v.Gen), manBytes(v)), sure("cur~", curBytes(v.Gen)))
	if m.d.Free() < m.need {
		return nil, api.ErrNoSpace
	}
	steps := turnSteps(m.d.Names(), files, v)
	m.version, m.tables = v, tables
	return steps, api.OK
}

// get is P13.3's Get.
func get(all []api.Entry, key []byte, seq int) ([]byte, api.Errno) {
	for _, e := range all {
		if bytes.Equal(e.Key, key) && e.Seq <= seq {
			if e.Gone {
				return nil, api.ErrNone
			}
			return e.Value, api.OK
		}
	}
	return nil, api.ErrNone
}

// scan is P13.3's Scan.
func scan(all []api.Entry, from, to []byte, seq int) []api.Entry {
	var out []api.Entry
	for _, versions := range byKey(all) {
		k := versions[0].Key
		at := slices.IndexFunc(versions, func(e api.Entry) bool { return e.Seq <= seq })
		if bytes.Compare(k, from) >= 0 && (len(to) == 0 || bytes.Compare(k, to) < 0) && at >= 0 && !versions[at].Gone {
			out = append(out, versions[at])
		}
	}
	return out
}

func newest(all []api.Entry, key []byte) int {
	out := 0
	for _, e := range all {
		if bytes.Equal(e.Key, key) {
			out = max(out, e.Seq)
		}
	}
	return out
}

// files is all that stands on a disk, as one text.
func files(d *disk.Disk) string {
	var s strings.Builder
	for _, f := range d.Dump() {
		fmt.Fprintf(&s, "%q:%d:%d:", f.Name, f.Safe, len(f.Bytes))
		s.Write(f.Bytes)
	}
	return s.String()
}

// brief is a disk's files, no more of them than an eye takes.
func brief(d *disk.Disk) string {
	var s strings.Builder
	for i, f := range d.Dump() {
		if i == 30 {
			s.WriteString("..")
			break
		}
		fmt.Fprintf(&s, "%q:%d of %d:% .8X ", f.Name, f.Safe, len(f.Bytes), f.Bytes)
	}
	return s.String()
}

// holds fails, unless the engine tells what the model has, at the Seqs that are asked for, of all keys and of some that are not there.
func (m *like) holds(t *testing.T, what string, e *Engine, seqs ...int) {
	t.Helper()
	if got := e.Version(); e.Seq() != m.seq || e.Waiting() != len(m.memory) || !versionsAlike(got, m.version) {
		t.Fatalf("%s: Seq %d, Waiting %d, %s, not %d, %d, %s", what, e.Seq(), e.Waiting(), toldVersion(got), m.seq, len(m.memory), toldVersion(m.version))
	}
	all := m.all()
	keys := [][]byte{nil, []byte("a"), []byte("none"), {0}, {0xff}}
	for _, versions := range byKey(all) {
		keys = append(keys, versions[0].Key)
	}
	bounds := keys
	if len(bounds) > 12 {
		bounds = append(slices.Clone(bounds[:6]), bounds[len(bounds)/2], bounds[len(bounds)-1])
	}
	for _, key := range keys {
		if got, want := e.Newest(key), newest(all, key); got != want {
			t.Fatalf("%s: Newest of %.9q: %d, not %d", what, key, got, want)
		}
	}
	for _, seq := range seqs {
		for _, key := range keys {
			got, f := e.Get(key, seq)
			if want, g := get(all, key, seq); f != g || !bytes.Equal(got, want) || f != api.OK && got != nil {
				t.Fatalf("%s: Get(%.9q, %d): %.9q %v, not %.9q %v", what, key, seq, got, f, want, g)
			}
		}
		for _, from := range bounds {
			for _, to := range bounds {
				got, want := e.Scan(from, to, seq), scan(all, from, to, seq)
				if !allAlike(got, want) {
					t.Fatalf("%s: Scan(%.9q, %.9q, %d): %s, not %s", what, from, to, seq, told(got), told(want))
				}
			}
		}
	}
}

// follows fails, unless the engine tells at the newest Seq, at those behind it, and at each that is pinned, what was written up to it.
func (m *like) follows(t *testing.T, what string, e *Engine) {
	t.Helper()
	for _, seq := range append(m.pinned(), m.seq, m.seq+1, most, math.MaxInt) {
		want := scan(m.ever, nil, nil, seq)
		if got := e.Scan(nil, nil, seq); !allAlike(got, want) {
			t.Fatalf("%s: at %d %s is seen, not %s", what, seq, told(got), told(want))
		}
		for _, versions := range byKey(m.ever) {
			key := versions[0].Key
			got, f := e.Get(key, seq)
			if want, g := get(versions, key, seq); f != g || !bytes.Equal(got, want) {
				t.Fatalf("%s: Get(%.9q, %d): %.9q %v, not %.9q %v", what, key, seq, got, f, want, g)
			}
		}
	}
}

// sameDisk fails, unless the engine's disk has what the model's has.
func (m *like) sameDisk(t *testing.T, what string, d *disk.Disk) {
	t.Helper()
	if files(d) != files(m.d) || d.Free() != m.d.Free() {
		t.Fatalf("%s: the disk has %s, not %s", what, brief(d), brief(m.d))
	}
}
