package wal

import (
	"bytes"
	"encoding/binary"
	"fmt"
	"hash/crc32"
	"math"
	"slices"
	"strings"
	"testing"

	"sawyer/api"
	"sawyer/code"
	"sawyer/disk"
)

// sample is n bytes that aren't alike.
func sample(n int) []byte {
	b := make([]byte, n)
	x := uint32(n)*2654435761 + 1
	for i := range b {
		x = x*1664525 + 1013904223
		b[i] = byte(x >> 24)
	}
	return b
}

// framed is a frame as chapter 2 has it, by Go's own library.
func framed(body []byte) []byte {
	b := binary.AppendUvarint(nil, uint64(len(body)))
	sum := crc32.ChecksumIEEE(slices.Concat(b, body))
	return append(binary.BigEndian.AppendUint32(b, sum), body...)
}

// bodyOf is a body whose frame has so many bytes.
func bodyOf(frame int) []byte {
	for n := max(frame-9, 0); n < frame; n++ {
		if b := sample(n); len(framed(b)) == frame {
			return b
		}
	}
	panic("no frame has so many bytes")
}

// goodNumbers are segments' numbers and what their files are called.
func goodNumbers() map[int]string {
	return map[int]string{
		0:         "wal/0000000000000",
		1:         "wal/0000000000001",
		7:         "wal/0000000000007",
		10:        "wal/0000000000010",
		123456789: "wal/0000123456789",
		1<<40 - 1: "wal/1099511627775",
		1 << 40:   "wal/1099511627776",
	}
}

// neighbour is what another segment's file is called.
func neighbour(n int) string {
	if n == 0 {
		return Name(1)
	}
	return Name(n - 1)
}

func wrongNumbers() []int {
	return []int{-1, -2, -7, math.MinInt, 1<<40 + 1, 1 << 41, 9999999999999, 10000000000000, math.MaxInt}
}

// notMade are disks that are none.
func notMade() []*disk.Disk { return []*disk.Disk{nil, {}, new(disk.Disk)} }

func mustNew(t *testing.T, capacity int) *disk.Disk {
	t.Helper()
	d, e := disk.New(capacity)
	if d == nil || e != api.OK {
		t.Fatalf("New(%d): %v", capacity, e)
	}
	return d
}

func mustLoad(t *testing.T, capacity int, l ...disk.File) *disk.Disk {
	t.Helper()
	d, e := disk.Load(capacity, l)
	if d == nil || e != api.OK {
		t.Fatalf("Load(%d): %v", capacity, e)
	}
	return d
}

// offDisk is a disk with these files whose power is off.
func offDisk(t *testing.T, capacity int, l ...disk.File) *disk.Disk {
	t.Helper()
	d := mustLoad(t, capacity, append(l, disk.File{Name: "other"})...)
	want(t, "Cut", d.Cut(0), api.OK)
	want(t, "the cut", d.Sync("other"), api.ErrPower)
	return d
}

// want holds an error against the one that is asked for.
func want(t *testing.T, what string, e, want api.Errno) {
	t.Helper()
	if e != want {
		t.Errorf("%s: %v, not %v", what, e, want)
	}
}

func mustAdd(t *testing.T, d *disk.Disk, n int, bodies ...[]byte) {
	t.Helper()
	for _, b := range bodies {
		if e := Add(d, n, b); e != api.OK {
			t.Fatalf("Add(%d, of %d bytes): %v", n, len(b), e)
		}
	}
}

// replayed holds what is replayed against what is asked for.
func replayed(t *testing.T, d *disk.Disk, n int, bodies ...[]byte) {
	t.Helper()
	l, e := Replay(d, n)
	if e != api.OK || !alike(l, bodies) {
		t.Errorf("Replay(%d): %s %v, not %s", n, short(l), e, short(bodies))
	}
}

func refusedReplay(t *testing.T, d *disk.Disk, n int, want api.Errno) {
	t.Helper()
	if l, e := Replay(d, n); l != nil || e != want {
		t.Errorf("Replay(%d): %s %v, not %v", n, short(l), e, want)
	}
}

func alike(a, b [][]byte) bool { return slices.EqualFunc(a, b, bytes.Equal) }

// short is a list of bodies as a text that is no longer than an eye takes.
func short(l [][]byte) string {
	var s strings.Builder
	for _, b := range l {
		fmt.Fprintf(&s, "%d:%.20q ", len(b), b)
	}
	return fmt.Sprintf("[%d] %.200s", len(l), s.String())
}

// told is all that a disk tells, as one text.
func told(d *disk.Disk) string {
	var s strings.Builder
	for _, f := range d.Dump() {
		fmt.Fprintf(&s, "%q:%d:%q ", f.Name, f.Safe, f.Bytes)
	}
	return fmt.Sprintf("%s free %d ops %d off %v", s.String(), d.Free(), d.Ops(), d.Off())
}

// kept fails, if what the disk tells is other than it was.
func kept(t *testing.T, d *disk.Disk, what string, call func()) {
	t.Helper()
	was := told(d)
	call()
	if told(d) != was {
		t.Errorf("%s: the disk is not as it was", what)
	}
}

// laid is a disk with one segment's file of these bytes.
func laid(t *testing.T, n int, b ...[]byte) *disk.Disk {
	t.Helper()
	return mustLoad(t, 1<<40, disk.File{Name: goodNumbers()[n], Bytes: slices.Concat(b...)})
}

// Example 1.
func TestExample(t *testing.T) {
	d := mustNew(t, 1000)
	ab, cd := []byte("ab"), []byte("cd")
	mustAdd(t, d, 7, ab, cd)
	replayed(t, d, 7, ab, cd)
	b, _ := d.Read("wal/0000000000007")
	replayed(t, laid(t, 7, b[:len(b)-1]), 7, ab)
}

// P5.1: what a segment's file is called; numbers at both ends and beyond.
func TestName(t *testing.T) {
	for n, name := range goodNumbers() {
		if is := Name(n); is != name {
			t.Errorf("Name(%d): %q, not %q", n, is, name)
		}
	}
	for _, n := range wrongNumbers() {
		if is := Name(n); is != "" {
			t.Errorf("Name(%d): %q", n, is)
		}
	}
}

// P5.1: all segments and nothing else, rising.
func TestSegments(t *testing.T) {
	d := mustNew(t, 10000)
	if l := Segments(d); len(l) != 0 {
		t.Error(l)
	}
	var numbers []int
	for n := range goodNumbers() {
		mustAdd(t, d, n, []byte("x"))
		numbers = append(numbers, n)
	}
	slices.Sort(numbers)
	if l := Segments(d); !slices.Equal(l, numbers) {
		t.Errorf("%v, not %v", l, numbers)
	}
}

// P5.1: names that are like a segment's but are none.
func TestSegmentsLike(t *testing.T) {
	d := mustLoad(t, 10000, disk.File{Name: "wal/0000000000005"}, disk.File{Name: "wal/1099511627776", Bytes: []byte("no frame")})
	for _, name := range []string{
		"wal/", "wal", "wal/x", "wal/5", "wal/000000000005", "wal/00000000000005", "wal/10995116277760",
		"wal/1099511627777", "wal/9999999999999", "wal/99999999999999999999999", "wal/+000000000005", "wal/-000000000005", "wal/-000000000000",
		"wal/000000000000x", "wal/x000000000000", "wal/000000_000005", "wal/0_00000000005", "wal/00000000000 5", "wal/ 000000000005", "wal/000000000005 ",
		"wal/0x00000000005", "wal/0000000000.05", "wal/00000000005e0", "wal/000000000000\xb9", "wal/00000000000٣",
		"0000000000005", "/0000000000005", "Wal/0000000000005", "wal\\0000000000005", "wal/wal/0000000000005", "awal/0000000000005", " wal/0000000000005", "wal0000000000005", "wal//000000000005", "wal/0000000000005\n", "wal/0000000000005/",
		"5", "0", "-1", "1099511627776",
	} {
		want(t, name, d.Append(name, []byte("x")), api.OK)
	}
	if l := Segments(d); !slices.Equal(l, []int{5, 1 << 40}) {
		t.Error(l)
	}
}

// P5.1: a segment counts with the power off, and as soon as it has a file, whatever its bytes.
func TestSegmentsOff(t *testing.T) {
	d := offDisk(t, 1000, disk.File{Name: "wal/0000000000012"}, disk.File{Name: "wal/0000000000003", Bytes: []byte("x")})
	if l := Segments(d); !slices.Equal(l, []int{3, 12}) {
		t.Error(l)
	}
}

// P5.1: what is dropped is gone, surely, and it alone.
func TestDrop(t *testing.T) {
	d := mustNew(t, 1000)
	mustAdd(t, d, 3, []byte("three"))
	mustAdd(t, d, 4, []byte("four"))
	ops := d.Ops()
	want(t, "Drop", Drop(d, 3), api.OK)
	if d.Ops() != ops+1 || d.Has("wal/0000000000003") || !slices.Equal(Segments(d), []int{4}) {
		t.Error(told(d))
	}
	kept(t, d, "twice", func() { want(t, "Drop", Drop(d, 3), api.ErrNoFile) })
	want(t, "Crash", d.Crash([]int{-1, -1}), api.OK)
	refusedReplay(t, d, 3, api.ErrNoFile)
	replayed(t, d, 4, []byte("four"))
	mustAdd(t, d, 3, []byte("again"))
	replayed(t, d, 3, []byte("again"))
	for n, name := range goodNumbers() {
		d := mustLoad(t, 100, disk.File{Name: name})
		want(t, name, Drop(d, n), api.OK)
		if len(d.Names()) != 0 {
			t.Error(told(d))
		}
	}
}

// P5.1: Drop's errors, ErrArg first.
func TestDropRefused(t *testing.T) {
	file := disk.File{Name: "wal/0000000000003"}
	for _, n := range wrongNumbers() {
		for _, d := range append(notMade(), mustLoad(t, 100, file), offDisk(t, 100, file)) {
			kept(t, d, "Drop", func() { want(t, "Drop", Drop(d, n), api.ErrArg) })
		}
	}
	for _, n := range []int{0, 3, 1 << 40} {
		for _, d := range notMade() {
			want(t, "of a disk that is none", Drop(d, n), api.ErrArg)
		}
		d := offDisk(t, 100, file)
		kept(t, d, "Drop", func() { want(t, "with the power off", Drop(d, n), api.ErrPower) })
	}
	d := mustLoad(t, 100, file)
	want(t, "Cut", d.Cut(0), api.OK)
	want(t, "no file, so not the cut", Drop(d, 4), api.ErrNoFile)
	want(t, "the cut", Drop(d, 3), api.ErrPower)
	if !d.Off() || !d.Has(file.Name) {
		t.Error(told(d))
	}
}

// P5.2: Need is a frame's length, and 16 and a name's 17 bytes, where there is no file.
func TestNeed(t *testing.T) {
	for body, frame := range map[int]int{0: 5, 1: 6, 127: 132, 128: 134, 4091: 4097, 4090: 4096, 16383: 16389, 16384: 16391, 1<<20 - 1: 1<<20 + 6, 1 << 20: 1<<20 + 7, 1<<20 + 1: 1<<20 + 8, 1<<21 - 1: 1<<21 + 6, 1 << 21: 1<<21 + 8} {
		b := make([]byte, body)
		for n, name := range goodNumbers() {
			if body > 5000 && n != 7 {
				continue
			}
			for _, d := range append(notMade(), mustNew(t, 0), mustNew(t, 1<<40), mustLoad(t, 1000, disk.File{Name: neighbour(n)}), offDisk(t, 50)) {
				if is := Need(d, n, b); is != frame+33 {
					t.Errorf("Need(%d, of %d bytes) without a file: %d", n, body, is)
				}
			}
			for _, d := range []*disk.Disk{mustLoad(t, 33, disk.File{Name: name}), mustLoad(t, 2000, disk.File{Name: name, Bytes: sample(1000)}), offDisk(t, 60, disk.File{Name: name})} {
				if is := Need(d, n, b); is != frame {
					t.Errorf("Need(%d, of %d bytes) with a file: %d", n, body, is)
				}
			}
		}
	}
}

// P5.2: a number that may not be has "" for a name, of which there is no file: 16 and no more.
func TestNeedWrong(t *testing.T) {
	for _, n := range wrongNumbers() {
		for _, d := range append(notMade(), mustNew(t, 100), mustLoad(t, 100, disk.File{Name: "wal/0000000000000"}), mustLoad(t, 100, disk.File{Name: "wal/1099511627777"})) {
			if a, b := Need(d, n, nil), Need(d, n, sample(100)); a != 5+16 || b != 105+16 {
				t.Errorf("Need(%d): %d, %d", n, a, b)
			}
		}
	}
}

// lengths are bodies' lengths: none, few, around a chunk and two with their frames, the longest.
func lengths() []int {
	l := []int{0, 1, 2, 100, 127, 128, 4095, 4096, 4097, 1<<20 - 1, 1 << 20}
	for _, frame := range []int{4095, 4096, 4097, 8191, 8192, 8193} {
		l = append(l, len(bodyOf(frame)))
	}
	return l
}

// P5.2: the file is the frames, one behind the other, all of it sure.
func TestAdd(t *testing.T) {
	for n, name := range goodNumbers() {
		d := mustNew(t, 1000)
		var all []byte
		for _, s := range []string{"one", "", "three", "\x00", "three"} {
			mustAdd(t, d, n, []byte(s))
			all = append(all, framed([]byte(s))...)
			if l := d.Dump(); len(l) != 1 || l[0].Name != name || l[0].Safe != len(all) || !bytes.Equal(l[0].Bytes, all) {
				t.Errorf("Add(%d, %q): %s", n, s, told(d))
			}
		}
	}
}

// P5.2: bytes that stand in a file are let be, sure then too; a frame is laid behind them.
func TestAddBehind(t *testing.T) {
	d := laid(t, 7, []byte("no frame"))
	mustAdd(t, d, 7, []byte("x"))
	l := d.Dump()
	if string(l[0].Bytes) != "no frame"+string(framed([]byte("x"))) || l[0].Safe != len(l[0].Bytes) {
		t.Error(told(d))
	}
	d = laid(t, 7)
	mustAdd(t, d, 7, []byte("x"))
	replayed(t, d, 7, []byte("x"))
}

// P5.2: an Append for each chunk, and one Sync.
func TestAddChunks(t *testing.T) {
	for _, n := range lengths() {
		d := mustNew(t, 1<<22)
		frame := framed(sample(n))
		for range 2 {
			was := d.Ops()
			mustAdd(t, d, 7, sample(n))
			if ops := d.Ops() - was; ops != (len(frame)+4095)/4096+1 {
				t.Errorf("%d bytes: %d raw writes", n, ops)
			}
		}
		if b, _ := d.Read("wal/0000000000007"); !bytes.Equal(b, slices.Concat(frame, frame)) {
			t.Errorf("%d bytes", n)
		}
		replayed(t, d, 7, sample(n), sample(n))
	}
	for frame, ops := range map[int]int{5: 2, 4095: 2, 4096: 2, 4097: 3, 8192: 3, 8193: 4} {
		d := mustNew(t, 10000)
		mustAdd(t, d, 0, bodyOf(frame))
		if d.Ops() != ops {
			t.Errorf("a frame of %d bytes: %d raw writes", frame, d.Ops())
		}
	}
}

// P5.2: all chunks but the last one are of 4096 bytes: so much is there behind each raw write.
func TestAddChunkSizes(t *testing.T) {
	frame := framed(bodyOf(10000))
	for cut, length := range []int{0, 4096, 8192, 10000} {
		d := mustLoad(t, 1<<20, disk.File{Name: "wal/0000000000007"})
		want(t, "Cut", d.Cut(cut), api.OK)
		want(t, "Add", Add(d, 7, bodyOf(10000)), api.ErrPower)
		if l := d.Dump(); l[0].Safe != 0 || !bytes.Equal(l[0].Bytes, frame[:length]) {
			t.Errorf("behind %d raw writes: %d bytes, %d of them sure", cut, len(l[0].Bytes), l[0].Safe)
		}
	}
}

// P5.2: what may not be, also with the power off and without room.
func TestAddRefused(t *testing.T) {
	file := disk.File{Name: "wal/0000000000007", Bytes: []byte("x")}
	disks := func() []*disk.Disk {
		return append(notMade(), mustNew(t, 0), mustNew(t, 1<<40), mustLoad(t, 1<<30, file), offDisk(t, 55), offDisk(t, 1<<30, file))
	}
	for _, n := range wrongNumbers() {
		for _, b := range [][]byte{nil, {}, []byte("x"), make([]byte, 1<<20), make([]byte, 1<<20+1)} {
			for _, d := range disks() {
				kept(t, d, "a wrong number", func() { want(t, "Add", Add(d, n, b), api.ErrArg) })
			}
		}
	}
	for n := range goodNumbers() {
		for _, d := range disks() {
			kept(t, d, "a long body", func() {
				want(t, "Add", Add(d, n, make([]byte, 1<<20+1)), api.ErrArg)
				want(t, "Add", Add(d, n, make([]byte, 1<<21)), api.ErrArg)
			})
		}
		for _, d := range notMade() {
			want(t, "a disk that is none", Add(d, n, nil), api.ErrArg)
			want(t, "a disk that is none", Add(d, n, []byte("x")), api.ErrArg)
		}
	}
}

// P5.2: ErrPower, with room and without it.
func TestAddOff(t *testing.T) {
	for _, capacity := range []int{1 << 20, 21 + 34} {
		d := offDisk(t, capacity, disk.File{Name: "wal/0000000000007", Bytes: []byte("x")})
		for _, n := range []int{0, 7, 1 << 40} {
			kept(t, d, "with the power off", func() {
				want(t, "Add", Add(d, n, nil), api.ErrPower)
				want(t, "Add", Add(d, n, make([]byte, 1<<20)), api.ErrPower)
			})
		}
	}
}

// P5.2: just the room that Need tells, and one less: with a file and without one.
func TestAddRoom(t *testing.T) {
	for _, n := range lengths() {
		body := sample(n)
		frame := len(framed(body))
		for _, l := range [][]disk.File{nil, {{Name: "wal/0000000000007", Bytes: []byte("xyz")}}} {
			capacity := 33 + frame
			if l != nil {
				capacity += 3
			}
			d := mustLoad(t, capacity, l...)
			if Need(d, 7, body) != d.Free() {
				t.Errorf("%d bytes: Need %d, free %d", n, Need(d, 7, body), d.Free())
			}
			want(t, "just the room", Add(d, 7, body), api.OK)
			if d.Free() != 0 {
				t.Errorf("%d bytes: free %d", n, d.Free())
			}
			d = mustLoad(t, capacity-1, l...)
			want(t, "Cut", d.Cut(0), api.OK)
			kept(t, d, "one less", func() { want(t, "Add", Add(d, 7, body), api.ErrNoSpace) })
		}
	}
	d := mustNew(t, 0)
	kept(t, d, "no room", func() { want(t, "Add", Add(d, 0, nil), api.ErrNoSpace) })
}

// P5.2: without room nothing is written, not even the chunks that there is room for.
func TestAddNoSpaceWhole(t *testing.T) {
	d := mustNew(t, 9000)
	mustAdd(t, d, 7, []byte("one"))
	kept(t, d, "Add", func() { want(t, "Add", Add(d, 7, sample(8990)), api.ErrNoSpace) })
	replayed(t, d, 7, []byte("one"))
	mustAdd(t, d, 7, []byte("two"))
	replayed(t, d, 7, []byte("one"), []byte("two"))
}

// P5.3: bodies of all lengths, in order; no bodies, where a file has no bytes; the power on or off.
func TestReplay(t *testing.T) {
	var bodies [][]byte
	var b []byte
	for _, n := range lengths() {
		bodies = append(bodies, sample(n))
		b = append(b, framed(sample(n))...)
	}
	replayed(t, laid(t, 7, b), 7, bodies...)
	replayed(t, laid(t, 7), 7)
	for n, name := range goodNumbers() {
		file := disk.File{Name: name, Safe: 3, Bytes: slices.Concat(framed([]byte("a")), framed(nil), framed([]byte("bc")))}
		for _, d := range []*disk.Disk{mustLoad(t, 1000, file), offDisk(t, 1000, file)} {
			kept(t, d, "Replay", func() { replayed(t, d, n, []byte("a"), nil, []byte("bc")) })
		}
	}
}

// P5.3: ErrArg first, then ErrNoFile.
func TestReplayRefused(t *testing.T) {
	file := disk.File{Name: "wal/0000000000007", Bytes: framed([]byte("x"))}
	for _, n := range wrongNumbers() {
		for _, d := range append(notMade(), mustNew(t, 0), mustLoad(t, 1000, file), mustLoad(t, 1000, disk.File{Name: "wal/1099511627777", Bytes: framed([]byte("x"))}), offDisk(t, 1000, file)) {
			refusedReplay(t, d, n, api.ErrArg)
		}
	}
	for n := range goodNumbers() {
		for _, d := range notMade() {
			refusedReplay(t, d, n, api.ErrArg)
		}
		for _, d := range []*disk.Disk{mustNew(t, 0), mustLoad(t, 1000, disk.File{Name: neighbour(n), Bytes: file.Bytes}), offDisk(t, 1000)} {
			refusedReplay(t, d, n, api.ErrNoFile)
		}
	}
}

// P5.3: a frame cut short anywhere is none, also with a sound one behind it.
func TestReplayCut(t *testing.T) {
	one, last := framed([]byte("one")), []byte("last")
	for _, n := range []int{0, 1, 2, 50, 127, 128, 300} {
		frame := framed(sample(n))
		for cut := range frame {
			replayed(t, laid(t, 7, frame[:cut]), 7)
			replayed(t, laid(t, 7, one, one, frame[:cut]), 7, []byte("one"), []byte("one"))
		}
		replayed(t, laid(t, 7, one, frame, framed(last)), 7, []byte("one"), sample(n), last)
		replayed(t, laid(t, 7, one, frame[:4], framed(last)), 7, []byte("one"))
	}
}

// P5.3: a byte turned makes a frame none, and ends it all, whatever stands behind.
func TestReplayTurned(t *testing.T) {
	one, last := framed([]byte("one")), framed([]byte("last"))
	for _, n := range []int{0, 1, 2, 50, 127, 128} {
		frame := framed(sample(n))
		for i := range frame {
			for bit := range 8 {
				b := slices.Concat(one, frame, last)
				b[len(one)+i] ^= 1 << bit
				replayed(t, laid(t, 7, b), 7, []byte("one"))
			}
		}
	}
}

// P5.3: a sound frame of a body of 2^20 bytes is one, of one byte more it is none.
func TestReplayLong(t *testing.T) {
	one, last := framed([]byte("one")), framed([]byte("last"))
	replayed(t, laid(t, 7, one, framed(sample(1<<20)), last), 7, []byte("one"), sample(1<<20), []byte("last"))
	for _, n := range []int{1<<20 + 1, 1<<20 + 2, 1 << 21, 1<<21 + 1} {
		replayed(t, laid(t, 7, one, framed(sample(n)), last), 7, []byte("one"))
		replayed(t, laid(t, 7, framed(sample(n))), 7)
	}
}

// P5.3: bytes that are no frame, and numbers that are none or say far too much.
func TestReplayNoFrame(t *testing.T) {
	one := framed([]byte("one"))
	for _, tail := range [][]byte{
		{0}, {1}, {0xff}, {0x80}, {0, 0}, {0x80, 0}, []byte("no frame"), make([]byte, 4), make([]byte, 5), make([]byte, 100),
		{0, 0xd2, 0x02, 0xef, 0x8c}, {0x80, 0, 0xd2, 0x02, 0xef, 0x8d}, bytes.Repeat([]byte{0xff}, 20), bytes.Repeat([]byte{0x80}, 20),
		code.PutNum(nil, 1<<62-1), append(code.PutNum(nil, 1<<62-1), make([]byte, 50)...), append(code.PutNum(nil, 1<<40), make([]byte, 50)...),
		binary.AppendUvarint(nil, math.MaxUint64), binary.AppendUvarint(nil, 1<<63), binary.AppendUvarint(nil, 1<<62),
	} {
		replayed(t, laid(t, 7, tail), 7)
		replayed(t, laid(t, 7, one, tail), 7, []byte("one"))
		replayed(t, laid(t, 7, one, tail, one), 7, []byte("one"))
	}
	replayed(t, laid(t, 7, []byte{0, 0xd2, 0x02, 0xef, 0x8d}), 7, nil)
}

// P5.3: a number laid in more groups than it needs says no length, though its sum is right.
func TestReplayLongNumber(t *testing.T) {
	b := []byte{0x82, 0}
	sum := crc32.ChecksumIEEE(append(slices.Clone(b), "ab"...))
	b = append(binary.BigEndian.AppendUint32(b, sum), "ab"...)
	replayed(t, laid(t, 7, b), 7)
}

// P5.3: a segment of many short bodies is gone through in one go, not once a body.
func TestReplayMany(t *testing.T) {
	const many = 300000
	d := laid(t, 7, bytes.Repeat(framed([]byte("x")), many))
	l, e := Replay(d, 7)
	if len(l) != many || e != api.OK || string(l[0]) != "x" || string(l[many-1]) != "x" {
		t.Error(len(l), e)
	}
}

// P5.4: the power goes at each raw write of an Add, and each pick is a crash behind it.
func TestCutAnywhere(t *testing.T) {
	before := [][]byte{[]byte("one"), {}, []byte("three")}
	for _, body := range [][]byte{nil, []byte("x"), sample(200), bodyOf(4096), bodyOf(4097), bodyOf(9000)} {
		writes := (len(framed(body))+4095)/4096 + 1
		for cut := range writes + 1 {
			for _, there := range []bool{false, true} {
				d := mustNew(t, 1<<20)
				var sure [][]byte
				if there {
					sure = before
					mustAdd(t, d, 7, sure...)
				}
				want(t, "Cut", d.Cut(cut), api.OK)
				if e := Add(d, 7, body); e == api.OK {
					sure = append(slices.Clone(sure), body)
				} else if e != api.ErrPower || cut >= writes || !d.Off() {
					t.Fatalf("cut %d of %d: %v", cut, writes, e)
				}
				crashes(t, d, sure, body)
			}
		}
	}
}

// crashes holds a disk with the segment 7 against each crash: of all bytes that are not sure some are kept.
func crashes(t *testing.T, d *disk.Disk, sure [][]byte, body []byte) {
	t.Helper()
	files := d.Dump()
	unsure := 0
	if len(files) == 1 {
		unsure = len(files[0].Bytes) - files[0].Safe
	}
	for pick := 0; pick <= unsure; pick++ {
		if pick > 300 && pick < unsure-300 && pick%4096 > 20 {
			continue // between them nothing is other than at its neighbours
		}
		d := mustLoad(t, 1<<20, files...)
		want(t, "Crash", d.Crash([]int{pick}), api.OK)
		if len(files) == 0 {
			refusedReplay(t, d, 7, api.ErrNoFile)
			continue
		}
		all := sure
		if pick > 0 && pick == unsure && pick == len(framed(body)) {
			all = append(slices.Clone(sure), body)
		}
		replayed(t, d, 7, all...)
		replayed(t, d, 7, all...)
	}
}

// P5.4: what was added stays through many crashes, as long as no frame is laid behind a torn one.
func TestSureStays(t *testing.T) {
	for _, pick := range []int{0, 1, 3, -1, math.MaxInt, math.MinInt} {
		d := mustNew(t, 1<<20)
		var sure [][]byte
		for i := range 30 {
			body := sample(i * 7)
			mustAdd(t, d, 7, body)
			sure = append(sure, body)
			want(t, "Append", d.Append("other", sample(5)), api.OK)
			want(t, "Crash", d.Crash([]int{pick, pick}), api.OK)
			replayed(t, d, 7, sure...)
		}
	}
}

// P5.2, P5.3: a body behind a torn frame is laid there, and not replayed: who adds goes on with another segment.
func TestBehindTorn(t *testing.T) {
	d := mustNew(t, 1000)
	mustAdd(t, d, 7, []byte("one"))
	want(t, "Cut", d.Cut(1), api.OK)
	want(t, "Add", Add(d, 7, []byte("two")), api.ErrPower)
	want(t, "Crash", d.Crash([]int{4}), api.OK)
	mustAdd(t, d, 7, []byte("three"))
	replayed(t, d, 7, []byte("one"))
	b, _ := d.Read("wal/0000000000007")
	if !bytes.Equal(b, slices.Concat(framed([]byte("one")), framed([]byte("two"))[:4], framed([]byte("three")))) {
		t.Errorf("%q", b)
	}
}

// R3: what is handed in is as it was, and nothing of it is kept.
func TestGivenIsApart(t *testing.T) {
	for _, n := range []int{3, 5000} {
		whole := bytes.Repeat([]byte{0xA5}, n+50)
		copy(whole, sample(n))
		was := bytes.Clone(whole)
		d := mustNew(t, 1<<20)
		Need(d, 7, whole[:n])
		mustAdd(t, d, 7, whole[:n])
		Add(d, -1, whole[:n])
		if !bytes.Equal(whole, was) {
			t.Errorf("%d bytes", n)
		}
		kept(t, d, "a body", func() { clear(whole) })
		replayed(t, d, 7, sample(n))
	}
}

// R3: what is answered is new memory, one body beside the other and beside the disk's.
func TestAnswersAreApart(t *testing.T) {
	d := mustNew(t, 1000)
	mustAdd(t, d, 7, []byte("one"), []byte("two"), []byte("three"))
	kept(t, d, "answers", func() {
		l, _ := Replay(d, 7)
		for i := range l {
			_ = append(l[i], "beyond beyond"...)
		}
		if !alike(l, [][]byte{[]byte("one"), []byte("two"), []byte("three")}) {
			t.Error(short(l))
		}
		clear(l[1][:cap(l[1])])
		if string(l[0]) != "one" || string(l[2]) != "three" {
			t.Error(short(l))
		}
		s := Segments(d)
		s[0] = 9
	})
	replayed(t, d, 7, []byte("one"), []byte("two"), []byte("three"))
	if s := Segments(d); !slices.Equal(s, []int{7}) {
		t.Error(s)
	}
}

// What asks writes nothing, also ahead of a cut.
func TestAsksOnly(t *testing.T) {
	d := mustNew(t, 1000)
	mustAdd(t, d, 7, []byte("one"))
	want(t, "Cut", d.Cut(0), api.OK)
	kept(t, d, "asking", func() {
		Need(d, 7, []byte("x"))
		Need(d, 8, []byte("x"))
		Segments(d)
		Replay(d, 7)
		Replay(d, 8)
	})
}

// P1: nothing panics at a disk that is none.
func TestNotMade(t *testing.T) {
	for _, d := range notMade() {
		if l := Segments(d); len(l) != 0 {
			t.Error(l)
		}
		for _, n := range []int{-1, 0, 7, 1 << 40, 1<<40 + 1, math.MinInt, math.MaxInt} {
			want(t, "Add", Add(d, n, nil), api.ErrArg)
			want(t, "Drop", Drop(d, n), api.ErrArg)
			refusedReplay(t, d, n, api.ErrArg)
			Need(d, n, nil)
		}
	}
}

// A likeSegment is what P5.4 says of a segment: bodies that are sure, and one that may be there behind a crash.
type likeSegment struct {
	sure  [][]byte
	maybe []byte
	open  bool // an Add was going on when the power went
	torn  bool // the file's last bytes are no frame
}

// holds replays a segment: all that is sure, and no more than the one that was being added.
func (m *likeSegment) holds(t *testing.T, d *disk.Disk, n int) {
	t.Helper()
	l, e := Replay(d, n)
	if e == api.ErrNoFile && len(m.sure) == 0 {
		*m = likeSegment{}
		return
	}
	switch {
	case e == api.OK && alike(l, m.sure):
	case e == api.OK && m.open && alike(l, append(slices.Clone(m.sure), m.maybe)):
	default:
		t.Fatalf("Replay(%d): %s %v, not %s", n, short(l), e, short(m.sure))
	}
	size := 0
	for _, b := range l {
		size += len(framed(b))
	}
	b, _ := d.Read(Name(n))
	*m = likeSegment{sure: l, torn: size < len(b)}
}

// walk does what bytes say: adds, drops, cuts and crashes over some segments, one that is torn being left for good.
func walk(t *testing.T, steps []byte) {
	const capacity = 20000
	d := mustNew(t, capacity)
	var like [4]likeSegment
	for len(steps) >= 3 {
		op, n, y := steps[0]%8, int(steps[1]%4), int(steps[2])
		steps = steps[3:]
		m := &like[n]
		switch op {
		case 0, 1, 2, 3:
			if m.torn || m.open {
				continue
			}
			body := sample(y * y / 12)
			off, room := d.Off(), d.Free() >= Need(d, n, body)
			switch e := Add(d, n, body); {
			case e == api.OK && !off && room:
				m.sure = append(m.sure, body)
			case e == api.ErrNoSpace && !off && !room:
			case e == api.ErrPower && d.Off():
				m.maybe, m.open = body, !off
			default:
				t.Fatalf("Add(%d, of %d bytes): %v", n, len(body), e)
			}
		case 4:
			if e := Drop(d, n); e == api.OK || e == api.ErrNoFile {
				*m = likeSegment{}
			}
		case 5:
			want(t, "Cut", d.Cut(y%9), api.OK)
		default:
			want(t, "Crash", d.Crash([]int{y, -y, y * y, 3 * y}), api.OK)
			for i := range like {
				like[i].holds(t, d, i)
			}
		}
	}
	want(t, "Crash", d.Crash(nil), api.OK)
	for i := range like {
		like[i].holds(t, d, i)
	}
}

// P5.4: long walks through adds, drops, cuts and crashes.
func TestWalks(t *testing.T) {
	for n := range 100 {
		walk(t, sample(300+3*n))
	}
}

// replays holds Replay against frames that are taken one by one from all that is left.
func replays(t *testing.T, b []byte) {
	var bodies [][]byte
	rest := b
	for {
		n, size := binary.Uvarint(rest)
		if size <= 0 || n > 1<<20 || len(rest) < size+4+int(n) || !bytes.HasPrefix(rest, framed(rest[size+4:size+4+int(n)])) {
			break
		}
		bodies = append(bodies, rest[size+4:size+4+int(n)])
		rest = rest[size+4+int(n):]
	}
	replayed(t, laid(t, 7, b), 7, bodies...)
}

// P5.3: bytes of any kind behind frames, turned or not.
func TestReplayAnything(t *testing.T) {
	for n := range 2000 {
		b := sample(n % 97)
		replays(t, b)
		b = slices.Concat(framed(sample(n%7)), framed(b), b)
		replays(t, b)
		b[n%len(b)] ^= byte(n)
		replays(t, b)
	}
}

func FuzzWal(f *testing.F) {
	f.Add(sample(60))
	f.Add(slices.Concat(framed([]byte("one")), framed(nil), framed(sample(300)), []byte("x")))
	f.Fuzz(func(t *testing.T, b []byte) {
		replays(t, b)
		walk(t, b)
	})
}
