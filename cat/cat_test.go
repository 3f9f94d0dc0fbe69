package cat

import (
	"bytes"
	"encoding/binary"
	"encoding/hex"
	"fmt"
	"hash/crc32"
	"math"
	"math/rand/v2"
	"slices"
	"strings"
	"testing"

	"sawyer/api"
	"sawyer/disk"
	"sawyer/edit"
)

const most = 1 << 40 // MaxNum

// sample is n bytes that aren't alike.
func sample(n int) []byte {
	b := make([]byte, n)
	x := uint32(n)*2654435761 + 1
	for i := range b {
		x = x*1664525 + 1013904223
		b[i] = byte(x >> 24)
	}
	return b
}

// plain are the bytes that hexadecimal digits say, whatever spaces stand between them.
func plain(digits string) []byte {
	b, err := hex.DecodeString(strings.ReplaceAll(digits, " ", ""))
	if err != nil {
		panic(err)
	}
	return b
}

// framed is a frame as chapter 2 has it, by Go's own library.
func framed(body []byte) []byte {
	b := binary.AppendUvarint(nil, uint64(len(body)))
	sum := crc32.ChecksumIEEE(slices.Concat(b, body))
	return append(binary.BigEndian.AppendUint32(b, sum), body...)
}

func num(n int) []byte { return binary.AppendUvarint(nil, uint64(n)) }

// laid are a version's bytes as chapter 10 has them, by Go's own library, whether it may be or not.
func laid(v edit.Version) []byte {
	b := slices.Concat(num(v.Gen), num(v.Next), num(v.Log), num(v.Seq), num(len(v.Tables)))
	for _, m := range v.Tables {
		b = append(b, slices.Concat(num(m.Num), num(m.Level), num(m.Count), num(len(m.First)), m.First, num(len(m.Last)), m.Last)...)
	}
	return b
}

// manBytes are the bytes of a version's file, curBytes those of "cur" that name a Gen.
func manBytes(v edit.Version) []byte { return framed(laid(v)) }
func curBytes(gen int) []byte        { return framed(num(gen)) }

func tab(n int) string { return fmt.Sprintf("tab/%013d", n) }
func man(n int) string { return fmt.Sprintf("man/%013d", n) }
func seg(n int) string { return fmt.Sprintf("wal/%013d", n) }

// sure is a file all of whose bytes are sure.
func sure(name string, b []byte) disk.File { return disk.File{Name: name, Safe: len(b), Bytes: b} }

// saved are the files of a disk on which v counts.
func saved(v edit.Version) []disk.File {
	return []disk.File{sure("cur", curBytes(v.Gen)), sure(man(v.Gen), manBytes(v))}
}

func note(n, level int, first, last string) edit.Meta {
	return edit.Meta{Num: n, Level: level, Count: 3, First: []byte(first), Last: []byte(last)}
}

// some is a version with notes of three levels, of that Gen.
func some(gen int) edit.Version {
	return edit.Version{Gen: gen, Next: 30, Log: 5, Seq: 77, Tables: []edit.Meta{
		note(9, 0, "a", "q"), note(7, 0, "b", "c"), note(4, 1, "a", "f"), note(12, 1, "g", "g"), note(0, 3, "\x00", "\xff"),
	}}
}

// bare is a version without notes.
func bare(gen int) edit.Version { return edit.Version{Gen: gen, Next: 3, Log: 2, Seq: gen} }

// long is a version of so many notes, each of the longest keys.
func long(gen, notes int) edit.Version {
	v := edit.Version{Gen: gen, Next: most, Log: most, Seq: most}
	for i := range notes {
		m := edit.Meta{Num: most - 1 - i, Count: 64, First: sample(64), Last: bytes.Repeat([]byte{0xff}, 64)}
		v.Tables = append(v.Tables, m)
	}
	return v
}

// framesOf is a version of that Gen whose file has so many bytes.
func framesOf(t *testing.T, gen, size int) edit.Version {
	t.Helper()
	for notes := max(size/138-2, 1); ; notes++ {
		v := long(gen, notes)
		for cut := range 64 {
			m := &v.Tables[notes-1]
			m.Last = bytes.Repeat([]byte{0xff}, 64-cut)
			if len(manBytes(v)) == size {
				return v
			}
			m.First = []byte{0}
			if len(manBytes(v)) == size {
				return v
			}
			m.First = sample(64)
		}
		if len(manBytes(v)) > size+138 {
			t.Fatalf("no version's file has %d bytes", size)
		}
	}
}

// versionsThatMayBe are versions, all of them of a Gen above 0.
func versionsThatMayBe() map[string]edit.Version {
	return map[string]edit.Version{
		"a bare one":     {Gen: 1},
		"of numbers":     bare(2),
		"of notes":       some(3),
		"of a Gen of 2":  some(128),
		"of the last":    {Gen: most, Next: most, Log: most, Seq: most},
		"of a chunk":     long(5, 40),
		"of many chunks": long(6, 300),
		"of all notes":   long(most-1, 4096),
	}
}

// versionsThatMayNotBe are versions that are refused.
func versionsThatMayNotBe() map[string]edit.Version {
	out := map[string]edit.Version{
		"Gen below 0":        {Gen: -1},
		"Gen far below 0":    {Gen: math.MinInt},
		"Gen above MaxNum":   {Gen: most + 1},
		"Gen far above":      {Gen: math.MaxInt},
		"Next below 0":       {Gen: 1, Next: -1},
		"Next above MaxNum":  {Gen: 1, Next: most + 1},
		"Log below 0":        {Gen: 1, Log: -1},
		"Log above MaxNum":   {Gen: 1, Log: most + 1},
		"Seq below 0":        {Gen: 1, Seq: -1},
		"Seq above MaxNum":   {Gen: 1, Seq: most + 1},
		"too many notes":     long(1, 4097),
		"a zero note":        {Gen: 1, Next: 9, Tables: []edit.Meta{{}}},
		"a Num twice":        {Gen: 1, Next: 9, Tables: []edit.Meta{note(3, 0, "a", "b"), note(3, 1, "a", "b")}},
		"out of order":       {Gen: 1, Next: 9, Tables: []edit.Meta{note(3, 0, "a", "b"), note(4, 0, "a", "b")}},
		"notes that overlap": {Gen: 1, Next: 9, Tables: []edit.Meta{note(3, 1, "a", "c"), note(4, 1, "b", "d")}},
		"a Num at Next":      {Gen: 1, Next: 3, Tables: []edit.Meta{note(3, 0, "a", "b")}},
	}
	for what, m := range map[string]edit.Meta{
		"a Num below 0":      {Num: -1, Count: 1, First: []byte("a"), Last: []byte("a")},
		"a Level above 3":    {Level: 4, Count: 1, First: []byte("a"), Last: []byte("a")},
		"a Count of 0":       {First: []byte("a"), Last: []byte("a")},
		"a Count of 65":      {Count: 65, First: []byte("a"), Last: []byte("a")},
		"no First":           {Count: 1, Last: []byte("a")},
		"a long Last":        {Count: 1, First: []byte("a"), Last: bytes.Repeat([]byte("b"), 65)},
		"Last ahead of it":   {Count: 1, First: []byte("b"), Last: []byte("a")},
		"a Level below 0":    {Level: -1, Count: 1, First: []byte("a"), Last: []byte("a")},
		"no Last, but First": {Count: 1, First: []byte("a")},
	} {
		out[what] = edit.Version{Gen: 1, Next: 9, Tables: []edit.Meta{m}}
	}
	return out
}

// notMade are disks that are none.
func notMade() []*disk.Disk { return []*disk.Disk{nil, {}, new(disk.Disk)} }

func mustNew(t *testing.T, capacity int) *disk.Disk {
	t.Helper()
	return mustLoad(t, capacity)
}

func mustLoad(t *testing.T, capacity int, l ...disk.File) *disk.Disk {
	t.Helper()
	d, e := disk.Load(capacity, l)
	if d == nil || e != api.OK {
		t.Fatalf("disk.Load(%d): %v", capacity, e)
	}
	return d
}

// offDisk is a disk with these files, and another one, whose power is off.
func offDisk(t *testing.T, capacity int, l ...disk.File) *disk.Disk {
	t.Helper()
	d := mustLoad(t, capacity, append(slices.Clone(l), disk.File{Name: "other"})...)
	want(t, "Cut", d.Cut(0), api.OK)
	want(t, "the cut", d.Sync("other"), api.ErrPower)
	return d
}

// want holds an error against the one that is asked for.
func want(t *testing.T, what string, e, want api.Errno) {
	t.Helper()
	if e != want {
		t.Errorf("%s: %v, not %v", what, e, want)
	}
}

// costs is what files cost, by chapter 4's words.
func costs(l ...disk.File) int {
	sum := 0
	for _, f := range l {
		sum += 16 + len(f.Name) + len(f.Bytes)
	}
	return sum
}

// files is all that stands on a disk, as one text; told is that, and all else that it tells.
func files(d *disk.Disk) string {
	var s strings.Builder
	for _, f := range d.Dump() {
		fmt.Fprintf(&s, "%q:%d:%d:", f.Name, f.Safe, len(f.Bytes))
		s.Write(f.Bytes)
	}
	return s.String()
}

func told(d *disk.Disk) string {
	return fmt.Sprintf("%s free %d ops %d off %v", files(d), d.Free(), d.Ops(), d.Off())
}

// brief is a disk's files, no more of them than an eye takes.
func brief(d *disk.Disk) string {
	var s strings.Builder
	for _, f := range d.Dump() {
		fmt.Fprintf(&s, "%q:%d of %d:% .8X ", f.Name, f.Safe, len(f.Bytes), f.Bytes)
	}
	return s.String()
}

// kept fails, if what the disk tells is other than it was.
func kept(t *testing.T, d *disk.Disk, what string, call func()) {
	t.Helper()
	was := told(d)
	call()
	if told(d) != was {
		t.Errorf("%s: the disk is not as it was: %s", what, brief(d))
	}
}

func alike(a, b edit.Version) bool {
	return a.Gen == b.Gen && a.Next == b.Next && a.Log == b.Log && a.Seq == b.Seq && slices.EqualFunc(a.Tables, b.Tables, func(m, n edit.Meta) bool {
		return m.Num == n.Num && m.Level == n.Level && m.Count == n.Count && bytes.Equal(m.First, n.First) && bytes.Equal(m.Last, n.Last)
	})
}

// zero: is a version the zero value?
func zero(v edit.Version) bool { return alike(v, edit.Version{}) && v.Tables == nil }

func short(v edit.Version) string {
	return fmt.Sprintf("(%d %d %d %d, %d notes)", v.Gen, v.Next, v.Log, v.Seq, len(v.Tables))
}

// loads fails, unless Load tells that version, and leaves the disk as it is.
func loads(t *testing.T, what string, d *disk.Disk, v edit.Version) {
	t.Helper()
	kept(t, d, what, func() {
		t.Helper()
		if got, e := Load(d); e != api.OK || !alike(got, v) {
			t.Errorf("Load, %s: %s %v, not %s: %s", what, short(got), e, short(v), brief(d))
		}
	})
}

// notLoaded fails, unless Load answers that error alone.
func notLoaded(t *testing.T, what string, d *disk.Disk, want api.Errno) {
	t.Helper()
	kept(t, d, what, func() {
		t.Helper()
		if got, e := Load(d); e != want || !zero(got) {
			t.Errorf("Load, %s: %s %v, not %v: %s", what, short(got), e, want, brief(d))
		}
	})
}

// judged fails, unless Load of files answers what the chapter's words do: cur and own are taken only as the very bytes that would be laid.
func judged(t *testing.T, what string, l ...disk.File) {
	t.Helper()
	d := mustLoad(t, 1<<40, l...)
	cur, e := d.Read("cur")
	if e != api.OK {
		loads(t, what, d, edit.Version{})
		return
	}
	for _, name := range d.Names() {
		var gen int
		fmt.Sscanf(name, "man/%d", &gen)
		own, _ := d.Read(name)
		body := bodyOf(own)
		v, e := edit.Decode(body)
		if name == man(gen) && bytes.Equal(cur, curBytes(gen)) && bytes.Equal(own, framed(body)) && e == api.OK && v.Gen == gen {
			loads(t, what, d, v)
			return
		}
	}
	notLoaded(t, what, d, api.ErrCorrupt)
}

// bodyOf are all bytes behind a number and a sum, whatever these say.
func bodyOf(b []byte) []byte {
	_, size := binary.Uvarint(b)
	if size <= 0 || size+4 > len(b) {
		return nil
	}
	return b[size+4:]
}

// A step is one raw write, by name, and what it does.
type step struct {
	what string
	do   func(d *disk.Disk) api.Errno
}

func stepRemove(name string) step {
	return step{"remove " + name, func(d *disk.Disk) api.Errno { return d.Remove(name) }}
}

func stepSync(name string) step {
	return step{"sync " + name, func(d *disk.Disk) api.Errno { return d.Sync(name) }}
}

func stepAppend(name string, b []byte) step {
	return step{fmt.Sprintf("append %d to %s", len(b), name), func(d *disk.Disk) api.Errno { return d.Append(name, b) }}
}

// calledSo: is a name a folder's and 13 digits of a number up to MaxNum?
func calledSo(folder, name string) (int, bool) {
	digits, ok := strings.CutPrefix(name, folder)
	if !ok || len(digits) != 13 {
		return 0, false
	}
	n := 0
	for _, x := range []byte(digits) {
		if x < '0' || x > '9' {
			return 0, false
		}
		n = n*10 + int(x-'0')
	}
	return n, n <= most
}

// saveSteps are the raw writes of a Save of v on a disk of these names, by the chapter's words.
func saveSteps(names []string, v edit.Version) []step {
	var l []step
	for _, name := range []string{"cur~", man(v.Gen)} {
		if slices.Contains(names, name) {
			l = append(l, stepRemove(name))
		}
	}
	rest := manBytes(v)
	for len(rest) > 4096 {
		l = append(l, stepAppend(man(v.Gen), rest[:4096]))
		rest = rest[4096:]
	}
	l = append(l, stepAppend(man(v.Gen), rest), stepSync(man(v.Gen)), stepAppend("cur~", curBytes(v.Gen)), stepSync("cur~"))
	l = append(l, step{"rename", func(d *disk.Disk) api.Errno { return d.Rename("cur~", "cur") }})
	for _, name := range slices.Sorted(slices.Values(names)) {
		if _, ok := calledSo("man/", name); ok && name != man(v.Gen) {
			l = append(l, stepRemove(name))
		}
	}
	return l
}

// stale: is a file to be cleaned away of v, by the chapter's words?
func stale(name string, v edit.Version) bool {
	if _, ok := calledSo("man/", name); ok {
		return name != man(v.Gen)
	}
	if n, ok := calledSo("tab/", name); ok {
		return !slices.ContainsFunc(v.Tables, func(m edit.Meta) bool { return m.Num == n })
	}
	if n, ok := calledSo("wal/", name); ok {
		return n < v.Log
	}
	return name == "cur~"
}

// cleanSteps are the raw writes of a Clean.
func cleanSteps(names []string, v edit.Version) []step {
	var l []step
	for _, name := range slices.Sorted(slices.Values(names)) {
		if stale(name, v) {
			l = append(l, stepRemove(name))
		}
	}
	return l
}

// goes holds a call on a disk of these files against its raw writes, cut ahead of each of them and behind them all.
func goes(t *testing.T, what string, capacity int, l []disk.File, steps []step, call func(*disk.Disk) api.Errno) {
	t.Helper()
	is := mustLoad(t, capacity, l...)
	should := mustLoad(t, capacity, l...)
	want(t, what, call(is), api.OK)
	if is.Ops() != len(steps) {
		t.Errorf("%s: %d raw writes, not %d", what, is.Ops(), len(steps))
	}
	for cut, s := range steps {
		cutOff := mustLoad(t, capacity, l...)
		want(t, "Cut", cutOff.Cut(cut), api.OK)
		want(t, fmt.Sprintf("%s, cut at %s", what, s.what), call(cutOff), api.ErrPower)
		if files(cutOff) != files(should) || cutOff.Ops() != cut || !cutOff.Off() {
			t.Errorf("%s, cut at %s: %s, not %s", what, s.what, brief(cutOff), brief(should))
		}
		want(t, s.what, s.do(should), api.OK)
	}
	if files(is) != files(should) || is.Off() {
		t.Errorf("%s: %s, not %s", what, brief(is), brief(should))
	}
	last := mustLoad(t, capacity, l...)
	want(t, "Cut", last.Cut(len(steps)), api.OK)
	want(t, what+", cut behind all", call(last), api.OK)
}

// saves is goes of a Save.
func saves(t *testing.T, what string, capacity int, l []disk.File, v edit.Version) {
	t.Helper()
	goes(t, what, capacity, l, saveSteps(namesOf(l), v), func(d *disk.Disk) api.Errno { return Save(d, v) })
}

// cleans is goes of a Clean.
func cleans(t *testing.T, what string, l []disk.File, v edit.Version) {
	t.Helper()
	goes(t, what, 1<<40, l, cleanSteps(namesOf(l), v), func(d *disk.Disk) api.Errno { return Clean(d, v) })
}

func namesOf(l []disk.File) []string {
	var out []string
	for _, f := range l {
		out = append(out, f.Name)
	}
	return out
}

// Example 1.
func TestExample(t *testing.T) {
	d := mustNew(t, 1000)
	v, e := Load(d)
	if e != api.OK || !zero(v) {
		t.Error(short(v), e)
	}
	want(t, "Save", Save(d, edit.Version{Gen: 1}), api.OK)
	if l := d.Names(); !slices.Equal(l, []string{"cur", "man/0000000000001"}) {
		t.Error(l)
	}
	loads(t, "behind it", d, edit.Version{Gen: 1})
}

// P11.1: what a table's file is called; numbers at both ends and beyond.
func TestTable(t *testing.T) {
	for n, name := range map[int]string{
		0: "tab/0000000000000", 1: "tab/0000000000001", 9: "tab/0000000000009", 10: "tab/0000000000010", 123456789: "tab/0000123456789",
		999999999999: "tab/0999999999999", 1000000000000: "tab/1000000000000", most - 1: "tab/1099511627775", most: "tab/1099511627776",
	} {
		if is := Table(n); is != name {
			t.Errorf("Table(%d): %q, not %q", n, is, name)
		}
	}
	for _, n := range []int{-1, -2, -10, math.MinInt, most + 1, 1 << 41, 9999999999999, 10000000000000, math.MaxInt} {
		if is := Table(n); is != "" {
			t.Errorf("Table(%d): %q", n, is)
		}
	}
}

// P11.1: ErrArg of a disk that is none; the zero version where there is no "cur", whatever else there is.
func TestLoadNothing(t *testing.T) {
	for _, d := range notMade() {
		if v, e := Load(d); e != api.ErrArg || !zero(v) {
			t.Error(short(v), e)
		}
	}
	other := []disk.File{
		sure("cur~", curBytes(2)), sure(man(0), manBytes(bare(0))), sure(man(2), manBytes(bare(2))), sure(tab(1), []byte("x")), sure(seg(1), []byte("x")),
		sure("Cur", curBytes(2)), sure("cur ", curBytes(2)), sure("/cur", curBytes(2)), sure("curs", curBytes(2)), sure("man/cur", curBytes(2)), sure("cu", curBytes(2)),
	}
	for _, d := range []*disk.Disk{mustNew(t, 0), mustNew(t, 1<<40), mustLoad(t, 10000, other...), offDisk(t, 10000), offDisk(t, 10000, other...)} {
		kept(t, d, "without cur", func() {
			if v, e := Load(d); e != api.OK || !zero(v) {
				t.Error(short(v), e, brief(d))
			}
		})
	}
}

// P11.1, P11.2: the files' bytes, reckoned by hand.
func TestKnown(t *testing.T) {
	known := []disk.File{
		sure("cur", plain("01 2FC51328 01")),
		sure("man/0000000000001", plain("05 DC6F19A0 01 00 00 00 00")),
	}
	loads(t, "the Gen 1", mustLoad(t, 1000, known...), edit.Version{Gen: 1})
	d := mustNew(t, 1000)
	want(t, "Save", Save(d, edit.Version{Gen: 1}), api.OK)
	if files(d) != files(mustLoad(t, 1000, known...)) {
		t.Error(brief(d))
	}
	v := edit.Version{Gen: 300, Next: 6, Log: 2, Seq: 9, Tables: []edit.Meta{{Num: 5, Level: 1, Count: 64, First: []byte("a"), Last: []byte("bc")}}}
	known = []disk.File{
		sure("cur", plain("02 10799FB5 AC02")),
		sure("man/0000000000300", plain("0E BDE0D0A5 AC02 06 02 09 01 05 01 40 01 61 02 6263")),
	}
	loads(t, "the Gen 300", mustLoad(t, 1000, known...), v)
	d = mustNew(t, 1000)
	want(t, "Save", Save(d, v), api.OK)
	if files(d) != files(mustLoad(t, 1000, known...)) {
		t.Error(brief(d))
	}
}

// P11.1: all kinds of versions, the power on or off, sure or not, whatever other files there are; also of the Gen 0, if its file is there.
func TestLoad(t *testing.T) {
	all := versionsThatMayBe()
	all["the zero version"] = edit.Version{}
	all["of the Gen 0"] = some(0)
	for what, v := range all {
		l := saved(v)
		loads(t, what, mustLoad(t, 1<<40, l...), v)
		loads(t, what+", off", offDisk(t, 1<<40, l...), v)
		l[0].Safe, l[1].Safe = 0, 3
		for _, gen := range []int{0, 1, 4, most} {
			if gen != v.Gen {
				l = append(l, sure(man(gen), manBytes(bare(gen))))
			}
		}
		l = append(l, sure("cur~", curBytes(4)), sure("other", []byte("x")), sure(tab(v.Gen), []byte("x")), sure(seg(v.Gen), []byte("x")))
		loads(t, what+", among others", mustLoad(t, 1<<40, l...), v)
	}
}

// P11.1: "cur" empty, cut or turned anywhere, and going on.
func TestLoadCurTurned(t *testing.T) {
	for _, gen := range []int{0, 1, 127, 128, 300, most} {
		good := curBytes(gen)
		own := sure(man(gen), manBytes(some(gen)))
		judged(t, "as it should be", sure("cur", good), own)
		for i := range good {
			notLoaded(t, "cur cut", mustLoad(t, 10000, sure("cur", good[:i]), own), api.ErrCorrupt)
			for x := range 256 {
				b := bytes.Clone(good)
				b[i] ^= byte(x)
				judged(t, "cur turned", sure("cur", b), own)
				if _, e := Load(mustLoad(t, 10000, sure("cur", b), own)); (e == api.OK) != (x == 0) {
					t.Errorf("Gen %d, byte %d turned by %d: %v", gen, i, x, e)
				}
			}
		}
		for _, more := range [][]byte{{0}, {1}, {0xff}, good, curBytes(1), framed(nil), make([]byte, 5000)} {
			for _, b := range [][]byte{slices.Concat(good, more), slices.Concat(more, good)} {
				notLoaded(t, "cur goes on", mustLoad(t, 1<<20, sure("cur", b), own), api.ErrCorrupt)
			}
		}
	}
}

// P11.1: sound frames in "cur" that say no Gen that may be, with all files there that they could mean.
func TestLoadCurWrong(t *testing.T) {
	others := []disk.File{sure("man/", nil), sure("man/1099511627777", manBytes(edit.Version{Gen: most + 1})), sure("man/4611686018427387903", manBytes(bare(1))), sure("man/0000000000001", manBytes(bare(1))), sure("man/0000000000000", manBytes(bare(0)))}
	for _, body := range [][]byte{
		nil, plain("80"), plain("81 00"), plain("80 00"), plain("81 80 00"), plain("FF FF FF FF FF FF FF FF 7F"), plain("FF FF FF FF FF FF FF FF FF 01"),
		plain("01 00"), plain("01 01"), plain("00 01"), plain("01 80"), []byte("1"), []byte("man/0000000000001"), []byte("0000000000001"),
		num(most + 1), num(1<<62 - 1), num(1 << 62), num(math.MaxInt), curBytes(1), make([]byte, 9), sample(300), sample(5000),
		append(make([]byte, 7), 1),
	} {
		notLoaded(t, fmt.Sprintf("% .20X", body), mustLoad(t, 1<<20, append(others, sure("cur", framed(body)))...), api.ErrCorrupt)
	}
	sum := crc32.ChecksumIEEE(plain("81 00 01"))
	notLoaded(t, "a length that could be shorter", mustLoad(t, 1000, append(others, sure("cur", slices.Concat(plain("81 00"), binary.BigEndian.AppendUint32(nil, sum), plain("01"))))...), api.ErrCorrupt)
	for _, b := range [][]byte{num(1), []byte("1"), plain("00 D2 02 EF 8D"), make([]byte, 6), make([]byte, 5), bytes.Repeat([]byte{0xff}, 30), append(num(1<<62-1), make([]byte, 50)...)} {
		notLoaded(t, fmt.Sprintf("cur of % .20X", b), mustLoad(t, 1<<20, append(others, sure("cur", b))...), api.ErrCorrupt)
	}
}

// P11.1: the version's file is not there, though others are.
func TestLoadNoMan(t *testing.T) {
	for _, gen := range []int{0, 1, 2, 300, most} {
		cur := sure("cur", curBytes(gen))
		v := some(gen)
		notLoaded(t, "no file", mustLoad(t, 1000, cur), api.ErrCorrupt)
		notLoaded(t, "no file, off", offDisk(t, 1000, cur), api.ErrCorrupt)
		for _, name := range []string{man(gen + 1), tab(gen), seg(gen), "man/", "man", "man/x", fmt.Sprint("man/", gen), fmt.Sprintf("man/%012d", gen), fmt.Sprintf("man/%014d", gen), fmt.Sprintf("Man/%013d", gen), man(gen) + " ", "cur~"} {
			if name != man(gen) {
				notLoaded(t, name, mustLoad(t, 1000, cur, sure(name, manBytes(v))), api.ErrCorrupt)
			}
		}
	}
}

// P11.1: the version's file empty, cut or turned anywhere, going on.
func TestLoadManTurned(t *testing.T) {
	for _, v := range []edit.Version{{}, {Gen: 1}, bare(2), some(3), some(most)} {
		cur, good := sure("cur", curBytes(v.Gen)), manBytes(v)
		for i := range good {
			notLoaded(t, "cut", mustLoad(t, 10000, cur, sure(man(v.Gen), good[:i])), api.ErrCorrupt)
			for bit := range 8 {
				b := bytes.Clone(good)
				b[i] ^= 1 << bit
				notLoaded(t, "turned", mustLoad(t, 10000, cur, sure(man(v.Gen), b)), api.ErrCorrupt)
			}
		}
		for _, more := range [][]byte{{0}, {1}, good, framed(nil), laid(v), make([]byte, 5000)} {
			for _, b := range [][]byte{slices.Concat(good, more), slices.Concat(more, good)} {
				notLoaded(t, "going on", mustLoad(t, 1<<20, cur, sure(man(v.Gen), b)), api.ErrCorrupt)
			}
		}
	}
	v := long(7, 4096)
	good := manBytes(v)
	for _, i := range []int{0, 1, 100, 4095, 4096, len(good) / 2, len(good) - 1} {
		b := bytes.Clone(good)
		b[i]++
		notLoaded(t, "long and turned", mustLoad(t, 1<<40, sure("cur", curBytes(7)), sure(man(7), b)), api.ErrCorrupt)
		notLoaded(t, "long and cut", mustLoad(t, 1<<40, sure("cur", curBytes(7)), sure(man(7), good[:i])), api.ErrCorrupt)
	}
}

// P11.1: sound frames whose bodies are no version's, or that of another Gen.
func TestLoadManWrong(t *testing.T) {
	for _, gen := range []int{0, 1, 2, most} {
		cur := sure("cur", curBytes(gen))
		for _, other := range []int{0, 1, 2, 3, most - 1, most} {
			d := mustLoad(t, 10000, cur, sure(man(gen), manBytes(some(other))))
			if other == gen {
				loads(t, "its own", d, some(gen))
			} else {
				notLoaded(t, "another Gen's", d, api.ErrCorrupt)
			}
		}
		v := laid(some(gen))
		for i := range v {
			judged(t, "a body cut", cur, sure(man(gen), framed(v[:i])))
			b := bytes.Clone(v)
			b[i] ^= 0x80
			judged(t, "a body turned", cur, sure(man(gen), framed(b)))
		}
		for _, body := range [][]byte{nil, num(gen), append(bytes.Clone(v), 0), v[1:], framed(v), v[:len(v)-1], sample(50)} {
			notLoaded(t, "another body", mustLoad(t, 10000, cur, sure(man(gen), framed(body))), api.ErrCorrupt)
		}
		notLoaded(t, "no frame", mustLoad(t, 10000, cur, sure(man(gen), v)), api.ErrCorrupt)
	}
	for what, v := range versionsThatMayNotBe() {
		cur := sure("cur", framed(num(max(v.Gen, 0))))
		judged(t, what, cur, sure("man/0000000000001", framed(laid(v))))
	}
	long := slices.Concat(plain("81 00"), laid(edit.Version{Gen: 1})[1:])
	notLoaded(t, "a Gen that could be shorter", mustLoad(t, 1000, sure("cur", curBytes(1)), sure(man(1), framed(long))), api.ErrCorrupt)
}

// P11.2: Need is what a disk counts of both files, whatever the disk it is asked of.
func TestNeed(t *testing.T) {
	all := versionsThatMayBe()
	all["the zero version"] = edit.Version{}
	all["of the Gen 0"] = some(0)
	for what, v := range all {
		counting := mustLoad(t, 1<<40, sure(man(v.Gen), manBytes(v)), sure("cur~", curBytes(v.Gen)))
		need := 1<<40 - counting.Free()
		for _, d := range append(notMade(), mustNew(t, 0), mustNew(t, 1<<40), counting, mustLoad(t, 1<<40, saved(v)...), offDisk(t, 1000)) {
			kept(t, d, what, func() {
				if is := Need(d, v); is != need {
					t.Errorf("Need, %s: %d, not %d", what, is, need)
				}
			})
		}
	}
	for v, need := range map[int]int{0: 16 + 17 + 10 + 16 + 4 + 6, 127: 16 + 17 + 10 + 16 + 4 + 6, 128: 16 + 17 + 11 + 16 + 4 + 7, most: 16 + 17 + 15 + 16 + 4 + 11} {
		if is := Need(nil, edit.Version{Gen: v}); is != need {
			t.Errorf("Need of the Gen %d: %d, not %d", v, is, need)
		}
	}
}

// P11.2: 0 of a version that may not be.
func TestNeedWrong(t *testing.T) {
	for what, v := range versionsThatMayNotBe() {
		for _, d := range append(notMade(), mustNew(t, 0), mustLoad(t, 1000, saved(bare(1))...), offDisk(t, 1000)) {
			if is := Need(d, v); is != 0 {
				t.Errorf("Need, %s: %d", what, is)
			}
		}
	}
}

// P11.2: what may not be is refused first, and turns nothing: also with the power off, without room, of files that lie about.
func TestSaveRefused(t *testing.T) {
	wrong := versionsThatMayNotBe()
	wrong["the zero version"] = edit.Version{}
	wrong["of the Gen 0"] = some(0)
	lying := append(saved(bare(2)), sure("cur~", []byte("x")), sure(man(0), []byte("x")), sure(man(1), []byte("x")), sure(tab(1), nil))
	for what, v := range wrong {
		for _, d := range append(notMade(), mustNew(t, 0), mustNew(t, 1<<40), mustLoad(t, 10000, lying...), mustLoad(t, costs(lying...), lying...), offDisk(t, 21), offDisk(t, 10000, lying...)) {
			kept(t, d, what, func() { want(t, what, Save(d, v), api.ErrArg) })
		}
	}
	for what, v := range versionsThatMayBe() {
		for _, d := range notMade() {
			kept(t, d, what, func() { want(t, "no disk, "+what, Save(d, v), api.ErrArg) })
		}
		for _, d := range []*disk.Disk{offDisk(t, 21), offDisk(t, 1<<40), offDisk(t, 1<<40, lying...), offDisk(t, costs(lying...)+21, lying...)} {
			kept(t, d, what, func() { want(t, "off, "+what, Save(d, v), api.ErrPower) })
		}
		for _, d := range []*disk.Disk{mustNew(t, 0), mustNew(t, 60), mustLoad(t, costs(lying...), lying...)} {
			kept(t, d, what, func() { want(t, "no room, "+what, Save(d, v), api.ErrNoSpace) })
		}
	}
}

// P11.2: just Need free is enough, one byte less is not, and then nothing is done, not even what would make room.
func TestSaveRoom(t *testing.T) {
	for what, v := range versionsThatMayBe() {
		need := costs(sure(man(v.Gen), manBytes(v)), sure("cur~", curBytes(v.Gen)))
		for i, l := range [][]disk.File{
			nil,
			saved(bare(9)),
			{sure("cur~", sample(5000))},
			{sure(man(v.Gen), sample(9000))},
			append(saved(bare(9)), sure("cur~", sample(5000)), sure(man(v.Gen), sample(9000)), sure(man(8), sample(3)), sure("other", sample(7))),
		} {
			capacity := costs(l...) + need
			d := mustLoad(t, capacity, l...)
			want(t, what+", just the room", Save(d, v), api.OK)
			loads(t, what, d, v)
			d = mustLoad(t, capacity-1, l...)
			want(t, "Cut", d.Cut(0), api.OK)
			kept(t, d, what, func() { want(t, fmt.Sprint(what, ", one byte less, ", i), Save(d, v), api.ErrNoSpace) })
			if i == 0 {
				d = mustNew(t, need)
				want(t, what, Save(d, v), api.OK)
				if d.Free() != 1 {
					t.Errorf("%s: free %d", what, d.Free())
				}
			}
		}
	}
}

// P11.2: behind a Save there are "cur" and the version's file, all of them sure, and what is no version's is as it was.
func TestSave(t *testing.T) {
	kindred := []disk.File{
		sure("other", []byte("o")), {Name: "man", Bytes: []byte("m")}, {Name: "man/", Bytes: []byte("m")}, sure("curs", nil), sure(tab(1), []byte("t")), {Name: seg(1), Safe: 1, Bytes: []byte("wal")}, sure("man/000000000001", []byte("m")),
	}
	for what, v := range versionsThatMayBe() {
		for _, l := range [][]disk.File{nil, kindred, append(saved(bare(9)), kindred...), append(saved(v), kindred...), append(kindred, sure(man(0), []byte("x")), sure(man(most), []byte("x")), sure(man(77), nil), sure("cur~", []byte("x")))} {
			d := mustLoad(t, 1<<40, l...)
			want(t, what, Save(d, v), api.OK)
			should := saved(v)
			if slices.Contains(namesOf(l), "other") {
				should = append(should, kindred...)
			}
			if files(d) != files(mustLoad(t, 1<<40, should...)) {
				t.Errorf("%s: %s", what, brief(d))
			}
			loads(t, what, d, v)
			want(t, "Crash", d.Crash(nil), api.OK)
			loads(t, what+", crashed", d, v)
		}
	}
}

// P11.2: the raw writes of a Save, one by one, whatever lay about beforehand.
func TestSaveSteps(t *testing.T) {
	for _, v := range []edit.Version{{Gen: 1}, bare(2), some(3), bare(most), long(5, 100), framesOf(t, 4, 4095), framesOf(t, 4, 4096), framesOf(t, 4, 4097), framesOf(t, 4, 8192), framesOf(t, 4, 8193)} {
		for what, l := range map[string][]disk.File{
			"a new disk":             nil,
			"another one counts":     saved(some(7)),
			"the same counts":        saved(v),
			"the same Gen, other":    saved(some(v.Gen)),
			"a greater Gen counts":   saved(bare(most - 1)),
			"cur~ lies about":        append(saved(some(7)), disk.File{Name: "cur~", Safe: 2, Bytes: []byte("torn")}),
			"its file lies about":    append(saved(some(7)), disk.File{Name: man(v.Gen), Safe: 3, Bytes: sample(6000)}),
			"both lie about":         append(saved(some(7)), sure("cur~", nil), sure(man(v.Gen), nil)),
			"both of it, no cur":     {sure("cur~", curBytes(v.Gen)), sure(man(v.Gen), manBytes(v))},
			"others lie about":       append(saved(some(7)), sure(man(0), nil), sure(man(99), sample(9)), sure(man(most-3), nil), sure(man(6), nil), sure(man(1000), nil)),
			"cur of no sense":        {sure("cur", sample(99))},
			"what is nearly so":      append(saved(some(7)), nearly("man/")...),
			"files of other layers":  append(saved(some(7)), sure(tab(1), nil), sure(seg(0), nil), sure("other", nil), sure(man(8), nil)),
			"a cur that is not sure": {{Name: "cur", Bytes: curBytes(7)}, {Name: man(7), Bytes: manBytes(some(7))}},
		} {
			saves(t, fmt.Sprintf("%s, %s", what, short(v)), 1<<40, unique(l), v)
		}
	}
}

// unique are files without those whose names stood ahead of them.
func unique(l []disk.File) []disk.File {
	var out []disk.File
	for _, f := range l {
		if !slices.Contains(namesOf(out), f.Name) {
			out = append(out, f)
		}
	}
	return out
}

// nearly are files that are nearly called as one of a folder is.
func nearly(folder string) []disk.File {
	var l []disk.File
	bare := strings.TrimSuffix(folder, "/")
	for _, name := range []string{
		folder, bare, folder + "x", folder + "1", folder + "000000000001", folder + "00000000000001", folder + "10995116277760", folder + "00000000000000",
		folder + "1099511627777", folder + "9999999999999", folder + "99999999999999999999999", folder + "+000000000001", folder + "-000000000001", folder + "-000000000000",
		folder + "000000000000x", folder + "x000000000000", folder + "000000_000001", folder + "00000000000 1", folder + " 000000000001", folder + "000000000001 ", folder + "000000000001\n",
		folder + "0x00000000001", folder + "0000000000.01", folder + "00000000001e0", folder + "000000000000\xb9", folder + "00000000000\u0661", folder + "000000000000a", folder + "00000000000:0", folder + "000000000000/",
		strings.ToUpper(folder) + "0000000000001", strings.ToUpper(folder[:1]) + folder[1:] + "0000000000001", "x" + folder + "0000000000001", " " + folder + "0000000000001", bare + "0000000000001", bare + "\\0000000000001", folder + "/000000000001",
		folder + folder + "0000000000001", folder + "0000000000001/", folder + "0000000000001~", folder + "0000000000001/0000000000001", "/" + folder + "0000000000001", bare + "s/0000000000001", folder[1:] + "0000000000001",
	} {
		l = append(l, disk.File{Name: name, Safe: 1, Bytes: []byte(name)})
	}
	return l
}

// P11.2: a version longer than MaxChunk: its Appends, counted one by one.
func TestSaveChunks(t *testing.T) {
	for size, appends := range map[int]int{4095: 1, 4096: 1, 4097: 2, 8191: 2, 8192: 2, 8193: 3, 40960: 10, 40961: 11} {
		v := framesOf(t, 3, size)
		d := mustNew(t, 1<<20)
		want(t, "Save", Save(d, v), api.OK)
		if d.Ops() != appends+1+2+1 {
			t.Errorf("a file of %d bytes: %d raw writes", size, d.Ops())
		}
		for cut := range appends + 1 {
			d := mustNew(t, 1<<20)
			want(t, "Cut", d.Cut(cut), api.OK)
			want(t, "Save", Save(d, v), api.ErrPower)
			b, _ := d.Read(man(3))
			if len(b) != min(cut*4096, size) || !bytes.Equal(b, manBytes(v)[:len(b)]) {
				t.Errorf("a file of %d bytes, behind %d raw writes: %d bytes", size, cut, len(b))
			}
		}
		loads(t, "in chunks", d, v)
	}
	v := long(9, 4096)
	d := mustNew(t, 1<<20)
	want(t, "Save", Save(d, v), api.OK)
	if size := len(manBytes(v)); d.Ops() != (size+4095)/4096+4 {
		t.Errorf("a file of %d bytes: %d raw writes", size, d.Ops())
	}
	loads(t, "the longest", d, v)
}

// waysToLose are picks for a Crash: nothing kept, all, a beginning, one file's but not the other one's.
func waysToLose() [][]int {
	l := [][]int{nil, {-1, -1, -1, -1, -1, -1, -1, -1}, {math.MaxInt, math.MaxInt, math.MaxInt, math.MaxInt}, {math.MinInt, math.MinInt, math.MinInt, math.MinInt}}
	for p := range 12 {
		l = append(l, []int{p, p, p, p, p, p, p, p}, []int{p}, []int{0, p}, []int{0, 0, p}, []int{0, 0, 0, p}, []int{p, 0, p, 0, p}, []int{p * 977, p * 1201, p * 4099, p * 131})
	}
	return l
}

// P11.4: the power goes at each raw write of a Save, and each way to lose is a crash behind it.
func TestCutAnywhere(t *testing.T) {
	torn := []disk.File{{Name: "cur~", Bytes: curBytes(5)}, {Name: man(5), Bytes: sample(90)}, {Name: man(8), Safe: 4, Bytes: sample(9)}}
	for _, ahead := range []edit.Version{{}, bare(1), some(4), some(9), long(3, 31)} {
		for _, v := range []edit.Version{bare(2), some(5), long(6, 31), bare(most)} {
			var l []disk.File
			if ahead.Gen > 0 {
				l = saved(ahead)
			}
			cutAnywhere(t, l, ahead, v)
			cutAnywhere(t, append(slices.Clone(l), torn...), ahead, v)
		}
	}
}

// cutAnywhere saves v on a disk where another version counts, cut at each raw write.
func cutAnywhere(t *testing.T, l []disk.File, ahead, v edit.Version) {
	t.Helper()
	steps := saveSteps(namesOf(l), v)
	renamed := slices.IndexFunc(steps, func(s step) bool { return s.what == "rename" })
	for cut := range len(steps) + 1 {
		cutOff := mustLoad(t, 1<<40, l...)
		want(t, "Cut", cutOff.Cut(cut), api.OK)
		e := Save(cutOff, v)
		if (e == api.OK) != (cut == len(steps)) || e != api.OK && e != api.ErrPower {
			t.Fatalf("cut %d of %d: %v", cut, len(steps), e)
		}
		should := ahead
		if cut > renamed {
			should = v
		}
		for _, picks := range waysToLose() {
			d := mustLoad(t, 1<<40, cutOff.Dump()...)
			want(t, "Crash", d.Crash(picks), api.OK)
			what := fmt.Sprintf("%s behind %s, cut %d of %d, picks %v", short(v), short(ahead), cut, len(steps), picks)
			loads(t, what, d, should)
			want(t, what, Clean(d, should), api.OK)
			onlyOf(t, what, d, should)
			loads(t, what+", cleaned", d, should)
		}
	}
}

// onlyOf fails, unless no other version's file than v's is there, and no "cur~".
func onlyOf(t *testing.T, what string, d *disk.Disk, v edit.Version) {
	t.Helper()
	var left []disk.File
	if v.Gen > 0 {
		left = saved(v)
	}
	if files(d) != files(mustLoad(t, 1<<40, left...)) {
		t.Errorf("%s: %s", what, brief(d))
	}
}

// P11.4: a Save that was cut is done again, and again cut: what counts is ahead of it or it.
func TestCutAgain(t *testing.T) {
	ahead, v, w := some(4), long(5, 40), some(6)
	for first := range 9 {
		for second := range 12 {
			for _, picks := range [][]int{nil, {1, 1, 1, 1}, {-1, -1, -1, -1}, {0, 3000, 7}} {
				for _, next := range []edit.Version{v, w} {
					d := mustLoad(t, 1<<40, saved(ahead)...)
					want(t, "Cut", d.Cut(first), api.OK)
					Save(d, v)
					want(t, "Crash", d.Crash(picks), api.OK)
					now, e := Load(d)
					if e != api.OK || !alike(now, ahead) && !alike(now, v) {
						t.Fatalf("cut %d: %s %v", first, short(now), e)
					}
					if now.Gen == next.Gen {
						continue // of the counting version's own Gen nothing is promised
					}
					want(t, "Cut", d.Cut(second), api.OK)
					e = Save(d, next)
					want(t, "Crash", d.Crash(picks), api.OK)
					then, f := Load(d)
					if f != api.OK || !alike(then, now) && !alike(then, next) || e == api.OK && !alike(then, next) {
						t.Errorf("cuts %d, %d: %s %v, %v", first, second, short(then), e, f)
					}
					want(t, "Clean", Clean(d, then), api.OK)
					onlyOf(t, "cut again", d, then)
				}
			}
		}
	}
}

// P11.4: what was saved and answered OK is loaded, whatever crashes, however often.
func TestSavedStays(t *testing.T) {
	for _, picks := range waysToLose()[:20] {
		d := mustNew(t, 1<<40)
		for _, v := range []edit.Version{some(1), bare(2), long(7, 60), some(3), bare(most), {Gen: 1}} {
			want(t, "Save", Save(d, v), api.OK)
			for range 3 {
				want(t, "Crash", d.Crash(picks), api.OK)
				loads(t, "crashed", d, v)
			}
			want(t, "Append", d.Append("other", sample(9)), api.OK)
			want(t, "Append", d.Append("cur~", sample(9)), api.OK)
			want(t, "Append", d.Append(man(v.Gen-1), sample(9)), api.OK)
			want(t, "Crash", d.Crash(picks), api.OK)
			loads(t, "crashed beside others", d, v)
			want(t, "Clean", Clean(d, v), api.OK)
			want(t, "Crash", d.Crash(picks), api.OK)
			loads(t, "cleaned and crashed", d, v)
			if l := d.Names(); !slices.Equal(l, []string{"cur", man(v.Gen), "other"}) {
				t.Error(l)
			}
			want(t, "Cut", d.Cut(0), api.OK)
			want(t, "a Save that is refused", Save(d, edit.Version{Gen: -1}), api.ErrArg)
			loads(t, "refused another one", d, v)
			want(t, "Crash", d.Crash(picks), api.OK)
		}
	}
}

// P11.2: the counting Gen again, and lesser ones: they count, and what counted is gone.
func TestSaveGens(t *testing.T) {
	d := mustNew(t, 1<<40)
	for i, gen := range []int{5, 5, 4, 1, most, most, 2, 1 << 20, 1, 1} {
		v := some(gen)
		v.Seq = i
		want(t, "Save", Save(d, v), api.OK)
		loads(t, "in turn", d, v)
		onlyOf(t, "in turn", d, v)
	}
}

// P11.2: of the counting Gen itself the words ask for a removal first: cut behind it there is no version that counts.
func TestSaveSameGen(t *testing.T) {
	for cut := range 7 {
		d := mustLoad(t, 1<<40, saved(some(5))...)
		want(t, "Cut", d.Cut(cut), api.OK)
		e := Save(d, bare(5))
		want(t, "Crash", d.Crash(nil), api.OK)
		switch {
		case cut == 0:
			want(t, "Save", e, api.ErrPower)
			loads(t, "ahead of all", d, some(5))
		case cut < 3:
			want(t, "Save", e, api.ErrPower)
			notLoaded(t, "between", d, api.ErrCorrupt)
		default:
			want(t, "Save", e, map[bool]api.Errno{true: api.OK, false: api.ErrPower}[cut == 6])
			loads(t, "its file being sure", d, bare(5))
		}
	}
}

// P11.3: what may not be is refused first, and turns nothing.
func TestCleanRefused(t *testing.T) {
	lying := append(saved(bare(2)), sure("cur~", []byte("x")), sure(man(0), []byte("x")), sure(tab(1), nil), sure(seg(0), nil))
	for what, v := range versionsThatMayNotBe() {
		for _, d := range append(notMade(), mustNew(t, 0), mustLoad(t, 10000, lying...), offDisk(t, 21), offDisk(t, 10000, lying...)) {
			kept(t, d, what, func() { want(t, what, Clean(d, v), api.ErrArg) })
		}
	}
	all := versionsThatMayBe()
	all["the zero version"] = edit.Version{}
	for what, v := range all {
		for _, d := range notMade() {
			want(t, "no disk, "+what, Clean(d, v), api.ErrArg)
		}
		d := offDisk(t, 10000, lying...)
		kept(t, d, what, func() { want(t, "off, "+what, Clean(d, v), api.ErrPower) })
	}
}

// P11.3: where nothing is to be removed nothing is written, with the power off, too, and ahead of a cut.
func TestCleanNothing(t *testing.T) {
	for what, v := range versionsThatMayBe() {
		l := append(saved(v), sure("other", []byte("x")), sure(seg(v.Log), []byte("x")))
		for _, m := range v.Tables {
			l = append(l, sure(tab(m.Num), []byte("x")))
		}
		d := mustLoad(t, 1<<40, l...)
		want(t, "Cut", d.Cut(0), api.OK)
		for _, d := range []*disk.Disk{d, mustNew(t, 0), mustLoad(t, 1<<40, l[:2]...), offDisk(t, 1<<40, l[:2]...)} {
			kept(t, d, what, func() { want(t, what, Clean(d, v), api.OK) })
		}
	}
	for _, d := range []*disk.Disk{mustNew(t, 0), offDisk(t, 1000), mustLoad(t, 1000, sure("cur", sample(20)), sure(man(0), sample(9)), sure(seg(0), nil))} {
		kept(t, d, "the zero version", func() { want(t, "the zero version", Clean(d, edit.Version{}), api.OK) })
	}
}

// P11.3: tables that v names and others, segments below, at and above its Log, versions' files, "cur" and "cur~"; one raw write each, by name.
func TestCleanSteps(t *testing.T) {
	var l []disk.File
	for _, n := range []int{0, 1, 2, 3, 4, 5, 6, 7, 9, 10, 11, 12, 29, 30, 100, 1 << 30, most - 1, most} {
		l = append(l, sure(tab(n), sample(n%9)), sure(man(n), sample(n%7)), disk.File{Name: seg(n), Bytes: sample(n % 5)})
	}
	l = append(l, sure("cur", curBytes(3)), sure("cur~", curBytes(4)), sure("other", nil), sure("curs", nil), sure("cur~~", nil), sure("cur~x", nil), sure("Cur~", nil), sure("~", nil))
	for _, v := range []edit.Version{{}, {Gen: 1}, {Log: 1}, {Log: most}, {Gen: most, Log: most - 1}, bare(2), some(0), some(3), some(7), some(most), long(5, 3)} {
		cleans(t, short(v), l, v)
		cleans(t, short(v)+" on a new disk", nil, v)
		cleans(t, short(v)+" among what is nearly so", slices.Concat(nearly("man/"), nearly("tab/"), nearly("wal/"), l), v)
	}
}

// P11.3: what is nearly called so stays as it is.
func TestCleanNearly(t *testing.T) {
	l := slices.Concat(nearly("man/"), nearly("tab/"), nearly("wal/"), nearly("cur~/"))
	l = slices.DeleteFunc(l, func(f disk.File) bool { return f.Name == "cur~" })
	l = append(l, sure("cur", sample(9)), sure("cur~~", nil), sure(" cur~", nil), sure("cur~ ", nil), sure("CUR~", nil))
	for _, v := range []edit.Version{{}, {Gen: 1}, some(3), {Gen: most, Log: most}} {
		d := mustLoad(t, 1<<40, unique(l)...)
		kept(t, d, short(v), func() { want(t, short(v), Clean(d, v), api.OK) })
		want(t, "Save", Save(d, bare(4)), api.OK)
		for _, f := range l {
			if !d.Has(f.Name) {
				t.Errorf("%q is gone", f.Name)
			}
		}
	}
}

// P11.3: "cur" stays, whatever it says; a version's own file stays, whatever is in it; a note's table, too.
func TestCleanLooksNotIn(t *testing.T) {
	v := some(3)
	l := []disk.File{sure("cur", curBytes(8)), sure(man(3), []byte("none")), sure(tab(9), []byte("none")), sure(seg(5), []byte("none"))}
	d := mustLoad(t, 1000, l...)
	kept(t, d, "what is named", func() { want(t, "Clean", Clean(d, v), api.OK) })
	d = mustLoad(t, 1000, append(l, sure(man(8), manBytes(bare(8))), sure(tab(8), nil), sure(seg(4), nil))...)
	want(t, "Clean", Clean(d, v), api.OK)
	if files(d) != files(mustLoad(t, 1000, l...)) {
		t.Error(brief(d))
	}
	notLoaded(t, "the counting one's file is gone", d, api.ErrCorrupt)
}

// P11.3: many files at once, thousands of them named.
func TestCleanMany(t *testing.T) {
	v := long(5, 4096)
	var l, left []disk.File
	for i := range 6000 {
		f := sure(tab(most-1-i), nil)
		l = append(l, f, sure(seg(most-1-i), nil))
		if i < 4096 {
			left = append(left, f)
		}
	}
	d := mustLoad(t, 1<<40, append(l, sure(seg(most), nil))...)
	want(t, "Clean", Clean(d, v), api.OK)
	if files(d) != files(mustLoad(t, 1<<40, append(left, sure(seg(most), nil))...)) {
		t.Error(len(d.Names()), "files are left")
	}
}

// P11.4: a Clean that is cut anywhere and crashed is gone on with: what counts counts all along.
func TestCleanCut(t *testing.T) {
	v := some(3)
	l := append(saved(v), sure("cur~", nil), sure(man(2), nil), sure(man(4), nil), sure(tab(1), nil), sure(tab(9), nil), sure(seg(4), nil), sure(seg(5), nil))
	stale := cleanSteps(namesOf(l), v)
	for cut := range len(stale) + 1 {
		d := mustLoad(t, 10000, l...)
		want(t, "Cut", d.Cut(cut), api.OK)
		if e := Clean(d, v); (e == api.OK) != (cut == len(stale)) || e != api.OK && e != api.ErrPower {
			t.Error(cut, e)
		}
		want(t, "Crash", d.Crash(nil), api.OK)
		loads(t, "cut", d, v)
		want(t, "Clean", Clean(d, v), api.OK)
		if names := d.Names(); !slices.Equal(names, []string{"cur", man(3), tab(9), seg(5)}) {
			t.Error(names)
		}
		loads(t, "gone on with", d, v)
	}
}

// R1, P1: nothing panics at what is none.
func TestNil(t *testing.T) {
	for _, d := range notMade() {
		for _, v := range []edit.Version{{}, {Gen: 1}, some(3), {Gen: -1}, {Tables: []edit.Meta{{}}}, {Gen: math.MaxInt, Next: math.MinInt, Tables: make([]edit.Meta, 5000)}} {
			if got, e := Load(d); e != api.ErrArg || !zero(got) {
				t.Error(short(got), e)
			}
			want(t, "Save", Save(d, v), api.ErrArg)
			want(t, "Clean", Clean(d, v), api.ErrArg)
			Need(d, v)
		}
	}
	v := edit.Version{Gen: 1, Tables: []edit.Meta{}}
	d := mustNew(t, 1000)
	want(t, "an empty list", Save(d, v), api.OK)
	loads(t, "an empty list", d, v)
}

// roomy is b in front of bytes that are another one's.
func roomy(b []byte) []byte { return append(bytes.Clone(b), "beyond beyond beyond"...)[:len(b)] }

// whole is all that a version reaches, up to its lists' capacities.
func whole(v edit.Version) string {
	var s strings.Builder
	for _, m := range v.Tables[:cap(v.Tables)] {
		fmt.Fprintf(&s, "%d %d %d %q %q ", m.Num, m.Level, m.Count, m.First[:cap(m.First)], m.Last[:cap(m.Last)])
	}
	return fmt.Sprintf("%d %d %d %d %d %s", v.Gen, v.Next, v.Log, v.Seq, len(v.Tables), s.String())
}

// R3: what is handed in is as it was behind each call, but the disk, which keeps nothing of it.
func TestHandedIn(t *testing.T) {
	for _, v := range []edit.Version{some(3), long(4, 80), {Gen: 1, Next: 9, Tables: []edit.Meta{note(3, 0, "a", "b"), note(4, 0, "a", "b")}}} {
		v.Tables = append(slices.Clone(v.Tables), note(99, 2, "z", "zz"))[:len(v.Tables)]
		for i := range v.Tables {
			v.Tables[i].First, v.Tables[i].Last = roomy(v.Tables[i].First), roomy(v.Tables[i].Last)
		}
		was := whole(v)
		d := mustLoad(t, 1<<40, sure("cur~", nil), sure(tab(1), nil), sure(man(1), nil))
		Need(d, v)
		e := Save(d, v)
		Clean(d, v)
		Save(offDisk(t, 1000), v)
		Save(mustNew(t, 0), v)
		Save(nil, v)
		Clean(nil, v)
		Need(nil, v)
		if whole(v) != was {
			t.Errorf("%s is other than it was", short(v))
		}
		kept(t, d, "what was handed in", func() {
			for _, m := range v.Tables[:cap(v.Tables)] {
				clear(m.First[:cap(m.First)])
				clear(m.Last[:cap(m.Last)])
			}
			clear(v.Tables)
		})
		if _, f := Load(d); e == api.OK && f != api.OK {
			t.Error(f)
		}
	}
}

// R3: what is answered is new memory: beside the disk's, beside another answer, one key beside the other.
func TestAnswered(t *testing.T) {
	v := some(3)
	d := mustLoad(t, 1<<40, saved(v)...)
	got, _ := Load(d)
	again, _ := Load(d)
	kept(t, d, "an answer", func() {
		for i := range got.Tables {
			m := got.Tables[i]
			_ = append(m.First, "beyond beyond"...)
			_ = append(m.Last, "beyond beyond"...)
		}
		if !alike(got, v) {
			t.Error("keys share memory")
		}
		for i, m := range got.Tables {
			clear(m.First[:cap(m.First)])
			clear(m.Last[:cap(m.Last)])
			for k := i + 1; k < len(v.Tables); k++ {
				if !bytes.Equal(got.Tables[k].First, v.Tables[k].First) || !bytes.Equal(got.Tables[k].Last, v.Tables[k].Last) {
					t.Error("keys share memory")
				}
			}
		}
		clear(got.Tables[:cap(got.Tables)])
	})
	if !alike(again, v) {
		t.Error("two answers share memory")
	}
	loads(t, "spoilt answers", d, v)
}

// What asks writes nothing, also ahead of a cut and with the power off.
func TestAsksOnly(t *testing.T) {
	d := mustLoad(t, 1<<40, saved(some(3))...)
	want(t, "Cut", d.Cut(0), api.OK)
	for _, d := range []*disk.Disk{d, offDisk(t, 10000, saved(some(3))...)} {
		kept(t, d, "asking", func() {
			Load(d)
			Need(d, some(3))
			Need(d, bare(4))
			Table(3)
		})
	}
}

// like is what the chapter says of a disk: the version that counts, or, behind a cut, two of them.
type like struct {
	counts, maybe edit.Version
	open          bool // a Save was going on when the power went
}

// holds loads what counts, and fails, if that is neither of both.
func (m *like) holds(t *testing.T, d *disk.Disk) {
	t.Helper()
	v, e := Load(d)
	if e != api.OK || !alike(v, m.counts) && !(m.open && alike(v, m.maybe)) {
		t.Fatalf("Load: %s %v, not %s or %s (%v): %s", short(v), e, short(m.counts), short(m.maybe), m.open, brief(d))
	}
	*m = like{counts: v}
}

// save saves a version of another Gen, and holds the answer against what the chapter asks.
func (m *like) save(t *testing.T, d *disk.Disk, v edit.Version) {
	t.Helper()
	off, room := d.Off(), d.Free() >= costs(sure(man(v.Gen), manBytes(v)), sure("cur~", curBytes(v.Gen)))
	switch e := Save(d, v); {
	case e == api.OK && !off && room:
		m.counts = v
	case e == api.ErrNoSpace && !off && !room:
	case e == api.ErrPower && d.Off():
		if !off {
			m.maybe, m.open = v, true
		}
	default:
		t.Fatalf("Save: %v (off %v, room %v)", e, off, room)
	}
}

// walk does what bytes say: saves, cleans, files that lie about, cuts and crashes.
func walk(t *testing.T, steps []byte) {
	d := mustNew(t, 12000)
	var m like
	for len(steps) >= 3 {
		op, x, y := steps[0]%8, int(steps[1]), int(steps[2])
		steps = steps[3:]
		switch op {
		case 0, 1, 2:
			v := long(1+x%5, y/8)
			v.Seq = x * y
			if v.Gen != m.counts.Gen && !m.open {
				m.save(t, d, v)
			}
		case 3:
			if m.open {
				continue
			}
			names := d.Names()
			e := Clean(d, m.counts)
			should := slices.DeleteFunc(names, func(name string) bool { return stale(name, m.counts) })
			if e == api.OK && !slices.Equal(d.Names(), should) || e != api.OK && (e != api.ErrPower || !d.Off()) {
				t.Fatalf("Clean: %v %v, not %v", e, d.Names(), should)
			}
		case 4:
			d.Append([]string{"cur~", man(6 + x%3), tab(x % 4), tab(most - 1 - x%4), seg(x), "other"}[y%6], sample(x%50))
		case 5:
			want(t, "Cut", d.Cut(y%9), api.OK)
		default:
			want(t, "Crash", d.Crash([]int{y, -y, x * y, 3 * x}), api.OK)
			m.holds(t, d)
		}
	}
	want(t, "Crash", d.Crash(nil), api.OK)
	m.holds(t, d)
}

// P11.4: long walks through saves, cleans, cuts and crashes.
func TestWalks(t *testing.T) {
	r := rand.New(rand.NewPCG(11, 4))
	for range 300 {
		steps := make([]byte, 300)
		for i := range steps {
			steps[i] = byte(r.Uint32())
		}
		walk(t, steps)
	}
}

// P11.1: files of any bytes.
func TestLoadAnything(t *testing.T) {
	r := rand.New(rand.NewPCG(11, 1))
	for range 3000 {
		v := some(r.IntN(3))
		cur, own := curBytes(r.IntN(3)), manBytes(v)
		for range r.IntN(3) {
			cur[r.IntN(len(cur))] = byte(r.Uint32())
		}
		for range r.IntN(2) {
			own[r.IntN(len(own))] = byte(r.Uint32())
		}
		judged(t, "anything", sure("cur", cur), sure(man(v.Gen), own), sure(man(v.Gen+1), manBytes(some(v.Gen+r.IntN(2)))))
	}
}

func FuzzCat(f *testing.F) {
	f.Add(curBytes(1), manBytes(bare(1)), sample(60))
	f.Add(curBytes(3), manBytes(some(3)), sample(300))
	f.Add(curBytes(most), manBytes(bare(most)), []byte("\x00\x01\x40\x05\x00\x03\x01\x02\x20\x07\x01\x01"))
	f.Fuzz(func(t *testing.T, cur, own, steps []byte) {
		judged(t, "as told", sure("cur", cur), sure(man(1), own))
		judged(t, "framed", sure("cur", curBytes(1)), sure(man(1), framed(own)))
		if v, e := edit.Decode(own); e == api.OK {
			judged(t, "a version", sure("cur", curBytes(v.Gen)), sure(man(v.Gen), framed(own)))
			if v.Gen > 0 {
				saves(t, "a version", 1<<40, []disk.File{sure("cur", cur)}, v)
			}
			cleans(t, "a version", []disk.File{sure("cur", cur), sure("cur~", nil), sure(tab(1), nil), sure(seg(1), nil), sure(man(1), nil)}, v)
		}
		walk(t, steps)
	})
}
