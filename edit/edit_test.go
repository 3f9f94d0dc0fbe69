package edit

import (
	"bytes"
	"encoding/binary"
	"encoding/hex"
	"fmt"
	"math"
	"math/rand/v2"
	"slices"
	"strings"
	"sync"
	"testing"

	"sawyer/api"
	"sawyer/code"
)

// sample is n bytes that aren't alike.
func sample(n int) []byte {
	b := make([]byte, n)
	x := uint32(n)*2654435761 + 1
	for i := range b {
		x = x*1664525 + 1013904223
		b[i] = byte(x >> 24)
	}
	return b
}

func note(num, level int, first, last string) Meta {
	return Meta{Num: num, Level: level, Count: 3, First: []byte(first), Last: []byte(last)}
}

// version is one of these notes, as they stand, its Next above what the tests name.
func version(l ...Meta) Version { return Version{Gen: 6, Next: 100, Log: 2, Seq: 7, Tables: l} }

func alikeNotes(a, b []Meta) bool {
	return slices.EqualFunc(a, b, func(m, n Meta) bool {
		return m.Num == n.Num && m.Level == n.Level && m.Count == n.Count && bytes.Equal(m.First, n.First) && bytes.Equal(m.Last, n.Last)
	})
}

func alike(a, b Version) bool {
	return a.Gen == b.Gen && a.Next == b.Next && a.Log == b.Log && a.Seq == b.Seq && alikeNotes(a.Tables, b.Tables)
}

// zero: is a version the zero value?
func zero(v Version) bool { return alike(v, Version{}) && v.Tables == nil }

func shortNotes(l []Meta) string {
	if len(l) > 12 {
		return fmt.Sprint(len(l), " notes")
	}
	var out []string
	for _, m := range l {
		out = append(out, fmt.Sprintf("(%d, %d, %d, %.9q of %d, %.9q of %d)", m.Num, m.Level, m.Count, m.First, len(m.First), m.Last, len(m.Last)))
	}
	return strings.Join(out, " ")
}

func short(v Version) string {
	return fmt.Sprintf("%d %d %d %d [%s]", v.Gen, v.Next, v.Log, v.Seq, shortNotes(v.Tables))
}

func nums(l []Meta) []int {
	var out []int
	for _, m := range l {
		out = append(out, m.Num)
	}
	return out
}

// plain are the bytes that hexadecimal digits say, whatever spaces stand between them.
func plain(t *testing.T, digits string) []byte {
	t.Helper()
	b, err := hex.DecodeString(strings.ReplaceAll(digits, " ", ""))
	if err != nil {
		t.Fatal(err)
	}
	return b
}

// isAhead: does m go ahead of n, by the chapter's words?
func isAhead(m, n Meta) bool {
	if m.Level != n.Level {
		return m.Level < n.Level
	}
	if m.Level == 0 {
		return m.Num > n.Num
	}
	return string(m.First) < string(n.First)
}

func wantNoteOK(m Meta) bool {
	return m.Num >= 0 && m.Num <= 1<<40 && m.Level >= 0 && m.Level <= 3 && m.Count >= 1 && m.Count <= 64 &&
		len(m.First) >= 1 && len(m.First) <= 64 && len(m.Last) >= 1 && len(m.Last) <= 64 && string(m.Last) >= string(m.First)
}

// wantOK: may a version be, by the chapter's words, each note held against each behind it?
func wantOK(v Version) bool {
	if len(v.Tables) > 4096 {
		return false
	}
	for _, n := range []int{v.Gen, v.Next, v.Log, v.Seq} {
		if n < 0 || n > 1<<40 {
			return false
		}
	}
	for i, m := range v.Tables {
		if !wantNoteOK(m) || m.Num >= v.Next {
			return false
		}
		for _, n := range v.Tables[i+1:] {
			if m.Num == n.Num || !isAhead(m, n) || m.Level == n.Level && m.Level > 0 && string(m.Last) >= string(n.First) {
				return false
			}
		}
	}
	return true
}

// ordered are notes in order, put there one by one.
func ordered(l []Meta) []Meta {
	var out []Meta
	for _, m := range l {
		at := 0
		for at < len(out) && isAhead(out[at], m) {
			at++
		}
		out = slices.Insert(out, at, m)
	}
	return out
}

// wantApply is what the chapter asks of Apply; false, if that is an error.
func wantApply(v Version, drop []int, add []Meta) (Version, bool) {
	if !wantOK(v) {
		return Version{}, false
	}
	left := slices.Clone(v.Tables)
	for _, n := range drop {
		at := slices.Index(nums(left), n)
		if at < 0 {
			return Version{}, false
		}
		left = slices.Delete(left, at, at+1)
	}
	v.Gen++
	v.Tables = ordered(append(left, add...))
	if !wantOK(v) {
		return Version{}, false
	}
	return v, true
}

func wantFind(v Version, key []byte) []int {
	var out []int
	for _, m := range v.Tables {
		if string(m.First) <= string(key) && string(key) <= string(m.Last) {
			out = append(out, m.Num)
		}
	}
	return out
}

func wantLevel(v Version, level int) []Meta {
	var out []Meta
	for _, m := range v.Tables {
		if m.Level == level {
			out = append(out, m)
		}
	}
	return out
}

// laid are bytes of a version that may not be, too, made of code's calls, of so many notes as is told.
func laid(v Version, count int) []byte {
	var b []byte
	for _, n := range []int{v.Gen, v.Next, v.Log, v.Seq, count} {
		b = code.PutNum(b, n)
	}
	for _, m := range v.Tables {
		var x []byte
		for _, n := range []int{m.Num, m.Level, m.Count} {
			x = code.PutNum(x, n)
		}
		x = code.PutText(x, string(m.First))
		x = code.PutText(x, string(m.Last))
		b = append(b, x...)
	}
	return b
}

func wantBytes(v Version) []byte { return laid(v, len(v.Tables)) }

// A strict reader: each thing that Encode never lays is refused where it stands.
type strict struct {
	b   []byte
	bad bool
}

func (s *strict) num() int {
	n, size := binary.Uvarint(s.b)
	if size <= 0 || size > 1 && s.b[size-1] == 0 || n > 1<<62-1 {
		s.b, s.bad = nil, true
		return 0
	}
	s.b = s.b[size:]
	return int(n)
}

func (s *strict) text() []byte {
	n := s.num()
	if n > len(s.b) {
		s.b, s.bad = nil, true
		return nil
	}
	out := s.b[:n]
	s.b = s.b[n:]
	return out
}

// wantDecode is the version of bytes, without asking what would be encoded of it; false, if there is none.
func wantDecode(b []byte) (Version, bool) {
	s := &strict{b: b}
	var v Version
	for _, p := range []*int{&v.Gen, &v.Next, &v.Log, &v.Seq} {
		*p = s.num()
	}
	count := s.num()
	for range count {
		var m Meta
		for _, p := range []*int{&m.Num, &m.Level, &m.Count} {
			*p = s.num()
		}
		m.First = s.text()
		m.Last = s.text()
		if s.bad {
			return Version{}, false
		}
		v.Tables = append(v.Tables, m)
	}
	return v, !s.bad && len(s.b) == 0 && wantOK(v)
}

// takes fails, unless Check takes a version, Encode lays it as these bytes, and Decode has it back.
func takes(t *testing.T, what string, v Version, want []byte) {
	t.Helper()
	if e := Check(v); e != api.OK {
		t.Errorf("Check of %s, %s: %v", what, short(v), e)
	}
	if b, e := Encode(v); e != api.OK || !bytes.Equal(b, want) {
		t.Errorf("Encode of %s, %s: % .60X %v; not % .60X", what, short(v), b, e, want)
	}
	if got, e := Decode(want); e != api.OK || !alike(got, v) {
		t.Errorf("Decode of %s, % .60X: %s %v; not %s", what, want, short(got), e, short(v))
	}
}

// refused fails, unless Check, Encode and Apply refuse a version, and Decode what its bytes would be.
func refused(t *testing.T, what string, v Version) {
	t.Helper()
	if e := Check(v); e != api.ErrArg {
		t.Errorf("Check of %s, %s: %v", what, short(v), e)
	}
	if b, e := Encode(v); b != nil || e != api.ErrArg {
		t.Errorf("Encode of %s, %s: % .60X %v", what, short(v), b, e)
	}
	notApplied(t, what, v, nil, nil)
	if len(v.Tables) > 0 { // also where what comes of it would do
		notApplied(t, what, v, nums(v.Tables), nil)
		notApplied(t, what, v, nums(v.Tables[:1]), nil)
	}
	decodes(t, what, wantBytes(v)) // a number below 0 is laid as 0, so that these may be another version's
}

// judged fails, unless a version is taken just if it may be by the chapter's words.
func judged(t *testing.T, what string, v Version) {
	t.Helper()
	if wantOK(v) {
		takes(t, what, v, wantBytes(v))
	} else {
		refused(t, what, v)
	}
}

func corrupt(t *testing.T, what string, b []byte) {
	t.Helper()
	if v, e := Decode(b); !zero(v) || e != api.ErrCorrupt {
		t.Errorf("Decode of %s, % .60X: %s %v", what, b, short(v), e)
	}
}

// decodes fails, unless Decode answers what a strict reader does.
func decodes(t *testing.T, what string, b []byte) {
	t.Helper()
	want, ok := wantDecode(b)
	if !ok {
		corrupt(t, what, b)
		return
	}
	takes(t, what, want, b)
}

func notApplied(t *testing.T, what string, v Version, drop []int, add []Meta) {
	t.Helper()
	if w, e := Apply(v, drop, add); !zero(w) || e != api.ErrArg {
		t.Errorf("Apply, %s, of %s, %v, %s: %s %v", what, short(v), drop, shortNotes(add), short(w), e)
	}
}

// applied fails, unless Apply answers the version's numbers, Gen one more, and these notes.
func applied(t *testing.T, what string, v Version, drop []int, add []Meta, want ...Meta) Version {
	t.Helper()
	w, e := Apply(v, drop, add)
	v.Gen, v.Tables = v.Gen+1, want
	if e != api.OK || !alike(w, v) {
		t.Errorf("Apply, %s, of %v, %s: %s %v; not %s", what, drop, shortNotes(add), short(w), e, short(v))
	}
	return w
}

func finds(t *testing.T, v Version, key []byte, want ...int) {
	t.Helper()
	if got := Find(v, key); !slices.Equal(got, want) {
		t.Errorf("Find of %s, %.20q: %v; not %v", short(v), key, got, want)
	}
}

func levels(t *testing.T, v Version, level int, want ...Meta) {
	t.Helper()
	if got := Level(v, level); !alikeNotes(got, want) {
		t.Errorf("Level of %s, %d: %s; not %s", short(v), level, shortNotes(got), shortNotes(want))
	}
}

// some is a version with notes of each level.
func some() Version {
	return version(
		note(9, 0, "c", "p"), note(7, 0, "a", "z"), note(3, 0, "b", "f"),
		note(1, 1, "a", "c"), note(20, 1, "e", "g"), note(2, 1, "ga", "ga"),
		note(11, 2, "a\x00", "f"), note(10, 2, "f\x00", "zz"),
		note(0, 3, "b", "y"))
}

// newest are n notes of level 0.
func newest(n int) []Meta {
	var out []Meta
	for i := n - 1; i >= 0; i-- {
		out = append(out, note(i, 0, "a", "z"))
	}
	return out
}

// inRow are n notes of one level above 0, one behind the other, their keys as long as they can be.
func inRow(n, level int) []Meta {
	var out []Meta
	for i := range n {
		k := bytes.Repeat([]byte{255}, 64)
		binary.BigEndian.PutUint32(k, uint32(i))
		last := bytes.Clone(k)
		k[63] = 0
		out = append(out, Meta{Num: 1<<40 - 1 - i, Level: level, Count: 64, First: k, Last: last})
	}
	return out
}

// versions are some that may be, of all kinds.
func versions() map[string]Version {
	return map[string]Version{
		"zero":            {},
		"no notes":        {Gen: 1, Next: 2, Log: 3, Seq: 4, Tables: []Meta{}},
		"greatest":        {Gen: 1 << 40, Next: 1 << 40, Log: 1 << 40, Seq: 1 << 40},
		"one":             version(note(0, 0, "a", "a")),
		"one below":       version(note(99, 3, "\x00", "\xff")),
		"some":            some(),
		"two of level 0":  version(note(5, 0, "a", "z"), note(3, 0, "a", "z")),
		"two of level 2":  version(note(3, 2, "a", "b"), note(5, 2, "b\x00", "c")),
		"longest keys":    {Next: 1 << 40, Tables: inRow(3, 1)},
		"each level once": version(note(1, 0, "a", "a"), note(2, 1, "a", "a"), note(3, 2, "a", "a"), note(4, 3, "a", "a")),
	}
}

// orders calls f with each order of notes.
func orders(l []Meta, f func([]Meta)) {
	var walk func(done, left []Meta)
	walk = func(done, left []Meta) {
		if len(left) == 0 {
			f(slices.Clone(done))
		}
		for i := range left {
			walk(append(slices.Clone(done), left[i]), slices.Delete(slices.Clone(left), i, i+1))
		}
	}
	walk(nil, l)
}

// Example 1: tables 3 and 5 of level 0, 4 of level 1 go 5, 3, 4.
func TestExample(t *testing.T) {
	l := []Meta{note(3, 0, "a", "c"), note(5, 0, "b", "d"), note(4, 1, "a", "z")}
	orders(l, func(in []Meta) {
		v := applied(t, "example", version(), nil, in, l[1], l[0], l[2])
		finds(t, v, []byte("b"), 5, 3, 4)
	})
}

// P10.1: bytes reckoned by hand.
func TestKnown(t *testing.T) {
	for _, x := range []struct {
		v    Version
		want string
	}{
		{Version{}, "00 00 00 00 00"},
		{Version{Gen: 1, Next: 300, Log: 2, Seq: 128}, "01 AC02 02 8001 00"},
		{Version{Gen: 1 << 40, Next: 1 << 40, Log: 1 << 40, Seq: 1 << 40}, "808080808020 808080808020 808080808020 808080808020 00"},
		{Version{Gen: 7, Next: 6, Log: 2, Seq: 9, Tables: []Meta{
			{Num: 5, Level: 0, Count: 3, First: []byte("a"), Last: []byte("z")},
			{Num: 3, Level: 0, Count: 1, First: []byte("b"), Last: []byte("b")},
			{Num: 4, Level: 1, Count: 64, First: []byte("b"), Last: []byte("bc")},
		}}, "07 06 02 09 03  05 00 03 0161 017A  03 00 01 0162 0162  04 01 40 0162 026263"},
		{Version{Next: 1 << 40, Tables: []Meta{{Num: 1<<40 - 1, Level: 3, Count: 2, First: bytes.Repeat([]byte{170}, 64), Last: []byte{255}}}},
			"00 808080808020 00 00 01  FFFFFFFFFF1F 03 02 40" + strings.Repeat("AA", 64) + "01FF"},
	} {
		takes(t, "known", x.v, plain(t, x.want))
	}
}

// P10.1: versions of all kinds, their bytes made of code's calls.
func TestVersions(t *testing.T) {
	for what, v := range versions() {
		if !wantOK(v) {
			t.Errorf("%s: no version by the chapter's words", what)
		}
		takes(t, what, v, wantBytes(v))
	}
}

// P10.1: at most 4096 notes.
func TestCount(t *testing.T) {
	for _, n := range []int{0, 1, 2, 4095, 4096} {
		v := Version{Next: 1 << 40, Tables: newest(n)}
		takes(t, "of level 0", v, wantBytes(v))
		for level := 1; level <= 3; level++ {
			v.Tables = inRow(n, level)
			takes(t, "of a level", v, wantBytes(v))
		}
		v.Tables = append(newest(n/2), inRow(n-n/2, 3)...)
		takes(t, "of two levels", v, wantBytes(v))
	}
	for _, n := range []int{4097, 4098, 10000} {
		refused(t, "of level 0", Version{Next: 1 << 40, Tables: newest(n)})
		refused(t, "of level 1", Version{Next: 1 << 40, Tables: inRow(n, 1)})
		refused(t, "of two levels", Version{Next: 1 << 40, Tables: append(newest(1), inRow(n-1, 3)...)})
	}
}

// P10.1: Gen, Next, Log and Seq are 0 to MaxNum, each by itself.
func TestNumbers(t *testing.T) {
	fields := func(v *Version) []*int { return []*int{&v.Gen, &v.Next, &v.Log, &v.Seq} }
	for i, name := range []string{"Gen", "Next", "Log", "Seq"} {
		for _, n := range []int{0, 1, 127, 128, 1<<40 - 1, 1 << 40} {
			for _, v := range []Version{{}, {Gen: 1, Next: 1, Log: 1, Seq: 1}, {Gen: 1 << 40, Next: 1 << 40, Log: 1 << 40, Seq: 1 << 40}} {
				*fields(&v)[i] = n
				takes(t, fmt.Sprint(name, " ", n), v, wantBytes(v))
			}
		}
		for _, n := range []int{math.MinInt, -1 << 40, -1, 1<<40 + 1, 1 << 41, 1<<62 - 1, 1 << 62, math.MaxInt} {
			for _, v := range []Version{{}, {Gen: 1, Next: 1, Log: 1, Seq: 1}, some()} {
				*fields(&v)[i] = n
				refused(t, fmt.Sprint(name, " ", n), v)
				if n > 0 {
					corrupt(t, fmt.Sprint(name, " ", n), wantBytes(v))
				}
			}
		}
	}
}

// wrongNotes are notes that may not be, each for one cause.
func wrongNotes() map[string]Meta {
	long := strings.Repeat("b", 65)
	out := map[string]Meta{
		"the zero note":      {},
		"First empty":        note(50, 2, "", "c"),
		"First nil":          {Num: 50, Level: 2, Count: 1, Last: []byte("c")},
		"Last empty":         note(50, 2, "b", ""),
		"Last nil":           {Num: 50, Level: 2, Count: 1, First: []byte("b")},
		"both empty":         note(50, 2, "", ""),
		"First of 65 bytes":  note(50, 2, long, "c"),
		"First of 999 bytes": note(50, 2, strings.Repeat("b", 999), "c"),
		"Last of 65 bytes":   note(50, 2, "b", long),
		"Last of 999 bytes":  note(50, 2, "b", strings.Repeat("b", 999)),
		"both of 65 bytes":   note(50, 2, long, long),
		"Last less":          note(50, 2, "c", "b"),
		"Last less by one":   note(50, 2, "b\x00", "b"),
		"Last less by 255":   note(50, 2, "b\xff", "b\xfe"),
	}
	for _, n := range []int{math.MinInt, -1, 1 << 40, 1<<40 + 1, math.MaxInt} {
		out[fmt.Sprint("Num ", n)] = note(n, 2, "b", "c")
	}
	for _, n := range []int{math.MinInt, -1, 4, 5, 1 << 32, math.MaxInt} {
		m := note(50, n, "b", "c")
		out[fmt.Sprint("Level ", n)] = m
	}
	for _, n := range []int{math.MinInt, -1, 0, 65, 66, 1<<32 + 1, math.MaxInt} {
		m := note(50, 2, "b", "c")
		m.Count = n
		out[fmt.Sprint("Count ", n)] = m
	}
	return out
}

// P10.1, P10.2: a note that may not be is refused alone, and at each place.
func TestWrongNotes(t *testing.T) {
	base := []Meta{note(1, 0, "a", "z"), note(2, 2, "\x01", "\x02"), note(3, 2, "x", "y"), note(4, 3, "a", "b")}
	for what, m := range wrongNotes() {
		v := Version{Next: 1 << 40}
		v.Tables = []Meta{m}
		refused(t, what, v)
		for at := range len(base) + 1 {
			v.Tables = slices.Insert(slices.Clone(base), at, m)
			refused(t, fmt.Sprint(what, " at ", at), v)
		}
		v.Tables = ordered(append(slices.Clone(base), m)) // in order but for that
		refused(t, what+" in order", v)
		v.Tables = base
		notApplied(t, what, v, nil, []Meta{m})
		notApplied(t, what, v, []int{2}, []Meta{m})
		notApplied(t, what, Version{Next: 1 << 40}, nil, []Meta{m})
		for _, level := range []int{0, 1, 3} { // the same in other levels
			if m.Level == 2 {
				m := m
				m.Level = level
				v.Tables = []Meta{m}
				refused(t, fmt.Sprint(what, " in level ", level), v)
			}
		}
	}
}

// P10.1: what a note may just be.
func TestRightNotes(t *testing.T) {
	longest := string(sample(64))
	for level := range 4 {
		for _, num := range []int{0, 1, 1<<40 - 1} {
			for _, count := range []int{1, 2, 63, 64} {
				for _, ends := range [][2]string{{"a", "a"}, {"a", "a\x00"}, {"\x00", "\xff"}, {longest, longest}, {longest[:1], longest}, {"a\xfe", "a\xff"}} {
					m := note(num, level, ends[0], ends[1])
					m.Count = count
					v := Version{Next: 1 << 40, Tables: []Meta{m}}
					takes(t, "one", v, wantBytes(v))
				}
			}
		}
	}
}

// P10.1, Words: of all orders of notes just the one that the chapter tells is taken, and Apply puts each into it.
func TestOrder(t *testing.T) {
	for what, l := range map[string][]Meta{
		"level 0":              {note(8, 0, "a", "b"), note(5, 0, "c", "d"), note(2, 0, "b", "c"), note(0, 0, "a", "z")},
		"level 1":              {note(5, 1, "a", "b"), note(9, 1, "ba", "c"), note(1, 1, "ca", "d"), note(7, 1, "d\x00", "z")},
		"level 3":              {note(3, 3, "a", "a"), note(2, 3, "a\x00", "a\x00"), note(1, 3, "a\xff", "b")},
		"from level to level":  {note(5, 0, "z", "z"), note(4, 1, "y", "y"), note(3, 2, "x", "x"), note(2, 3, "w", "w")},
		"levels, Nums rising":  {note(2, 0, "a", "a"), note(3, 1, "a", "a"), note(4, 2, "a", "a"), note(5, 3, "a", "a")},
		"two of each of two":   {note(5, 0, "b", "c"), note(3, 0, "a", "c"), note(6, 1, "a", "b"), note(4, 1, "c", "c")},
		"two of 0, two of 3":   {note(7, 0, "a", "c"), note(6, 0, "b", "c"), note(9, 3, "0", "1"), note(8, 3, "2", "3")},
		"keys by bytes":        {note(1, 2, "B", "C"), note(2, 2, "a", "b"), note(3, 2, "\x80", "\x81"), note(4, 2, "\xff", "\xff")},
		"a beginning is less":  {note(4, 1, "a", "a"), note(3, 1, "aa", "aa"), note(2, 1, "aaa", "aaa"), note(1, 1, "ab", "ab")},
		"ended, then 0 byte":   {note(4, 1, "a", "a"), note(3, 1, "a\x00", "a\x00"), note(2, 1, "a\x00\x00", "a\x00\x00")},
		"Nums far from others": {note(99, 0, "a", "b"), note(0, 0, "a", "b"), note(98, 1, "a", "b"), note(1, 1, "c", "d")},
	} {
		takes(t, what, version(l...), wantBytes(version(l...)))
		orders(l, func(in []Meta) {
			if !slices.Equal(nums(in), nums(l)) {
				refused(t, what, version(in...))
			}
			applied(t, what, version(), nil, in, l...)
			for n := range l { // some there, the others added
				applied(t, what, version(ordered(in[:n])...), nil, in[n:], l...)
			}
		})
	}
}

// P10.1, P10.2: no Num stands twice, neither in one level nor in two, also far from each other.
func TestNumTwice(t *testing.T) {
	for what, l := range map[string][]Meta{
		"in level 0":          {note(5, 0, "a", "b"), note(5, 0, "c", "d")},
		"alike":               {note(5, 0, "a", "b"), note(5, 0, "a", "b")},
		"in level 1":          {note(5, 1, "a", "b"), note(5, 1, "c", "d")},
		"in level 1, far":     {note(5, 1, "a", "b"), note(6, 1, "c", "d"), note(5, 1, "e", "f")},
		"in levels 0 and 1":   {note(5, 0, "a", "b"), note(5, 1, "c", "d")},
		"in levels 0 and 3":   {note(5, 0, "a", "b"), note(6, 1, "c", "d"), note(5, 3, "a", "b")},
		"in levels 2 and 3":   {note(5, 2, "a", "b"), note(5, 3, "a", "b")},
		"Num 0":               {note(0, 1, "a", "b"), note(0, 2, "a", "b")},
		"the greatest of all": {note(99, 0, "a", "b"), note(98, 0, "a", "b"), note(1, 1, "a", "b"), note(99, 2, "a", "b")},
	} {
		refused(t, what, version(l...))
		notApplied(t, what, version(), nil, l)
		notApplied(t, what, version(l[0]), nil, l[1:])
		notApplied(t, what, version(l[1:]...), nil, l[:1])
	}
}

// P10.1, P10.2: each Num is less than Next.
func TestNext(t *testing.T) {
	for level := range 4 {
		for _, num := range []int{0, 1, 7, 1<<40 - 1} {
			l := []Meta{note(num, level, "a", "b")}
			takes(t, "just below", Version{Next: num + 1, Tables: l}, wantBytes(Version{Next: num + 1, Tables: l}))
			applied(t, "just below", Version{Next: num + 1}, nil, l, l...)
			for _, next := range []int{num, num - 1, 0} {
				refused(t, "Next", Version{Next: next, Tables: l})
				notApplied(t, "Next", Version{Next: next}, nil, l)
			}
		}
	}
	v := version(note(6, 0, "a", "b"), note(5, 1, "a", "b"), note(7, 1, "c", "d"), note(2, 3, "a", "b"))
	v.Next = 8
	takes(t, "in the midst, just below", v, wantBytes(v))
	v.Next = 7
	refused(t, "in the midst", v)
	refused(t, "MaxNum itself", Version{Next: 1 << 40, Tables: []Meta{note(1<<40, 0, "a", "b")}})
}

// P10.1, P10.2: of one level above 0 no two overlap, nor touch in a key; of level 0 they may.
func TestOverlap(t *testing.T) {
	for _, x := range []struct {
		what       string
		a, b, c, d string
		meet       bool
	}{
		{"apart", "a", "b", "c", "d", false},
		{"just apart", "a", "b", "b\x00", "d", false},
		{"just apart by 255", "a", "b\xfe", "b\xff", "d", false},
		{"one key each", "a", "a", "b", "b", false},
		{"touch", "a", "b", "b", "d", true},
		{"overlap", "a", "c", "b", "d", true},
		{"one in the other", "a", "z", "b", "c", true},
		{"a key in the other", "a", "z", "b", "b", true},
		{"alike", "a", "b", "a", "b", true},
		{"begin alike", "a", "b", "a", "c", true},
		{"end alike", "a", "c", "b", "c", true},
		{"one key, alike", "a", "a", "a", "a", true},
		{"a beginning", "a", "b\x00", "b", "c", true},
	} {
		for level := range 4 {
			m, n := note(8, level, x.a, x.b), note(5, level, x.c, x.d)
			far := note(6, level, "zz", "zz")
			for _, l := range [][]Meta{{m, n}, ordered([]Meta{m, n, far}), ordered([]Meta{note(7, level, "0", "1"), m, n})} {
				if level > 0 && x.meet {
					refused(t, x.what, version(l...))
					notApplied(t, x.what, version(), nil, l)
					notApplied(t, x.what, version(m), nil, []Meta{n})
					notApplied(t, x.what, version(n), nil, []Meta{m})
				} else {
					takes(t, x.what, version(l...), wantBytes(version(l...)))
					applied(t, x.what, version(), nil, l, l...)
					applied(t, x.what, version(m), nil, []Meta{n}, m, n)
				}
			}
			for other := range 4 { // of two levels they may always
				n.Level = other
				if other != level {
					l := ordered([]Meta{m, n})
					takes(t, x.what, version(l...), wantBytes(version(l...)))
				}
			}
		}
	}
	refused(t, "not next to each other", version(note(1, 1, "a", "z"), note(2, 1, "b", "c"), note(3, 1, "d", "e")))
}

// P10.1: no bytes, and cut off anywhere: none of these begins another one's.
func TestDecodeCut(t *testing.T) {
	corrupt(t, "nil", nil)
	corrupt(t, "nothing", []byte{})
	for what, v := range versions() {
		b := wantBytes(v)
		for n := range b {
			corrupt(t, fmt.Sprint(what, " cut to ", n), b[:n])
			corrupt(t, fmt.Sprint(what, " from ", n+1), append(bytes.Clone(b[n+1:]), bytes.Repeat([]byte{128}, n+1)...))
		}
	}
}

// P10.1: a byte turned is another version's bytes, or none's.
func TestDecodeTurned(t *testing.T) {
	for what, v := range versions() {
		b := wantBytes(v)
		for at := range b {
			for x := range 256 {
				turned := bytes.Clone(b)
				turned[at] = byte(x)
				decodes(t, fmt.Sprint(what, " with ", x, " at ", at), turned)
				if got, e := Decode(turned); e == api.OK && alike(got, v) && byte(x) != b[at] {
					t.Errorf("%s with %d at %d is the same version", what, x, at)
				}
			}
		}
	}
}

// P10.1: a byte more or less in the midst.
func TestDecodeShifted(t *testing.T) {
	for what, v := range versions() {
		b := wantBytes(v)
		for at := range len(b) + 1 {
			for _, x := range []byte{0, 1, 97, 127, 128, 255} {
				decodes(t, what+" and a byte", slices.Insert(bytes.Clone(b), at, x))
			}
			if at < len(b) {
				decodes(t, what+" without a byte", slices.Delete(bytes.Clone(b), at, at+1))
			}
		}
	}
}

// P10.1: bytes left over.
func TestDecodeLeft(t *testing.T) {
	for what, v := range versions() {
		b := wantBytes(v)
		for _, left := range [][]byte{{0}, {255}, {1, 0, 3, 1, 97, 1, 97}, b, make([]byte, 100000), sample(100000)} {
			corrupt(t, what, append(bytes.Clone(b), left...))
		}
	}
}

// P10.1: each number, told by a group more than it needs, or as one that is too great.
func TestDecodeLongNumbers(t *testing.T) {
	v := version(note(5, 0, "a", "b"), note(4, 1, "c", "d"))
	b := wantBytes(v)
	for at := range b {
		switch b[at] {
		case 'a', 'b', 'c', 'd':
			continue
		}
		for _, more := range [][]byte{{0}, {128, 0}, {128, 128, 128, 128, 128, 128, 128, 0}} {
			long := slices.Insert(bytes.Clone(b), at+1, more...)
			long[at] |= 128
			corrupt(t, fmt.Sprint("long at ", at), long)
		}
		for _, n := range []int{1<<40 + 1, 1<<62 - 1} {
			corrupt(t, fmt.Sprint(n, " at ", at), slices.Concat(b[:at], code.PutNum(nil, n), b[at+1:]))
		}
		above := bytes.Repeat([]byte{255}, 9)
		corrupt(t, fmt.Sprint("no number at ", at), slices.Concat(b[:at], above, b[at+1:]))
		corrupt(t, fmt.Sprint("no end at ", at), slices.Concat(b[:at], above, above))
	}
}

// P10.1: a count that is not that of the notes.
func TestDecodeCount(t *testing.T) {
	for what, v := range versions() {
		for _, count := range []int{0, 1, 2, 3, 4, 8, 10, 4095, 4096, 4097, 1 << 31, 1 << 40, 1<<62 - 1} {
			if count != len(v.Tables) {
				corrupt(t, fmt.Sprint(what, ", ", count), laid(v, count))
			}
		}
	}
	for _, n := range []int{4095, 4096, 4097} {
		v := Version{Next: 1 << 40, Tables: newest(n)}
		corrupt(t, "one more", laid(v, n+1))
		corrupt(t, "one fewer", laid(v, n-1))
	}
	corrupt(t, "4097 told as 4096", laid(Version{Next: 1 << 40, Tables: newest(4097)}, 4096))
	corrupt(t, "4096 told as 4097", laid(Version{Next: 1 << 40, Tables: newest(4096)}, 4097))
}

// P10.1: bytes that tell a version that may not be.
func TestDecodeWrong(t *testing.T) {
	for what, v := range map[string]Version{
		"out of order":         version(note(3, 0, "a", "b"), note(5, 0, "a", "b")),
		"out of order, keys":   version(note(3, 1, "c", "d"), note(5, 1, "a", "b")),
		"out of order, levels": version(note(3, 1, "a", "b"), note(5, 0, "a", "b")),
		"a Num twice":          version(note(3, 1, "a", "b"), note(3, 2, "a", "b")),
		"Num at Next":          version(note(100, 1, "a", "b")),
		"touching":             version(note(3, 1, "a", "b"), note(4, 1, "b", "c")),
		"Level 4":              version(note(3, 4, "a", "b")),
		"no First":             version(note(3, 1, "", "b")),
		"no Last":              version(note(3, 1, "a", "")),
		"First of 65 bytes":    version(note(3, 1, strings.Repeat("a", 65), "b")),
		"Last of 65 bytes":     version(note(3, 1, "a", strings.Repeat("b", 65))),
		"Last less":            version(note(3, 1, "b", "a")),
		"Count 0":              version(Meta{Num: 3, Level: 1, First: []byte("a"), Last: []byte("b")}),
		"Count 65":             version(Meta{Num: 3, Level: 1, Count: 65, First: []byte("a"), Last: []byte("b")}),
		"4097 notes":           {Next: 1 << 40, Tables: newest(4097)},
	} {
		corrupt(t, what, wantBytes(v))
	}
	long := append(wantBytes(version())[:4], 1, 3, 1, 1, 1, 'a') // a text of more bytes than there are
	corrupt(t, "a long text", append(long, code.PutNum(nil, 1<<62-1)...))
	corrupt(t, "a text of 64, one there", append(bytes.Clone(long), 64, 'b'))
}

// P10.2: nothing to drop, nothing to add: Gen alone is one more.
func TestApplyNothing(t *testing.T) {
	for what, v := range versions() {
		if v.Gen == 1<<40 {
			continue
		}
		applied(t, what, v, nil, nil, v.Tables...)
		applied(t, what, v, []int{}, []Meta{}, v.Tables...)
	}
}

// P10.2: drops.
func TestApplyDrop(t *testing.T) {
	v := some()
	for _, m := range v.Tables {
		left := slices.DeleteFunc(slices.Clone(v.Tables), func(n Meta) bool { return n.Num == m.Num })
		applied(t, "one", v, []int{m.Num}, nil, left...)
		notApplied(t, "twice", v, []int{m.Num, m.Num}, nil)
		notApplied(t, "twice, added again", v, []int{m.Num, m.Num}, []Meta{m})
		notApplied(t, "twice, one between", v, []int{m.Num, (v.Tables[0].Num + v.Tables[1].Num) - m.Num, m.Num}, nil)
		applied(t, "dropped and added again", v, []int{m.Num}, []Meta{m}, v.Tables...)
		notApplied(t, "added again, not dropped", v, nil, []Meta{m})
	}
	applied(t, "all", v, nums(v.Tables), nil)
	falling := slices.Sorted(slices.Values(nums(v.Tables)))
	slices.Reverse(falling)
	applied(t, "all, in another order", v, falling, nil)
	applied(t, "all, added again", v, falling, v.Tables, v.Tables...)
	applied(t, "some", v, []int{2, 9, 0, 11}, nil, v.Tables[1], v.Tables[2], v.Tables[3], v.Tables[4], v.Tables[7])
	for _, n := range []int{math.MinInt, -1, 4, 5, 6, 8, 12, 99, 100, 1 << 40, math.MaxInt} {
		notApplied(t, "no note's", v, []int{n}, nil)
		notApplied(t, "no note's beside one", v, []int{9, n}, nil)
		notApplied(t, "no note's beside one", v, []int{n, 9}, nil)
		notApplied(t, "no note's", Version{}, []int{n}, nil)
		notApplied(t, "one that is only added", v, []int{n}, []Meta{note(n, 0, "a", "b")})
	}
	notApplied(t, "0 of the zero version", Version{}, []int{0}, nil)
	notApplied(t, "very many", v, make([]int, 100000), nil)
	notApplied(t, "one twice, as many as there are notes", version(note(2, 0, "a", "b"), note(1, 0, "a", "b")), []int{1, 1}, nil)
	notApplied(t, "one, and no note's", version(note(2, 0, "a", "b"), note(1, 0, "a", "b")), []int{1, 3}, nil)
}

// P10.2: adds that may not be there, and such as may once others are dropped.
func TestApplyAdd(t *testing.T) {
	v := some()
	applied(t, "a level 0", v, nil, []Meta{note(8, 0, "x", "y")}, slices.Insert(slices.Clone(v.Tables), 1, note(8, 0, "x", "y"))...)
	applied(t, "between two", v, nil, []Meta{note(50, 1, "d", "d\xff")}, slices.Insert(slices.Clone(v.Tables), 4, note(50, 1, "d", "d\xff"))...)
	notApplied(t, "overlaps", v, nil, []Meta{note(50, 1, "c", "d")})
	notApplied(t, "overlaps the next one", v, nil, []Meta{note(50, 1, "d", "e")})
	applied(t, "fits once one is dropped", v, []int{1}, []Meta{note(50, 1, "c", "d")},
		v.Tables[0], v.Tables[1], v.Tables[2], note(50, 1, "c", "d"), v.Tables[4], v.Tables[5], v.Tables[6], v.Tables[7], v.Tables[8])
	notApplied(t, "two that overlap", v, nil, []Meta{note(50, 3, "z", "zz"), note(51, 3, "za", "zb")})
	notApplied(t, "one Num twice", v, nil, []Meta{note(50, 0, "z", "zz"), note(50, 3, "z", "zz")})
	notApplied(t, "a Num that is there", v, nil, []Meta{note(9, 3, "z", "zz")})
	applied(t, "a Num that is dropped, in another level", v, []int{9}, []Meta{note(9, 3, "z", "zz")}, append(slices.Clone(v.Tables[1:]), note(9, 3, "z", "zz"))...)
	notApplied(t, "Next", v, nil, []Meta{note(100, 0, "a", "b")})
	notApplied(t, "beside one that may be", v, nil, []Meta{note(50, 0, "a", "b"), note(51, 4, "a", "b")})
	notApplied(t, "zero notes", v, nil, make([]Meta, 5000))
}

// P10.2: Gen at its end, and 4096 notes at most.
func TestApplyEdges(t *testing.T) {
	v := some()
	v.Gen = 1<<40 - 1
	applied(t, "to MaxNum", v, nil, nil, v.Tables...)
	v.Gen = 1 << 40
	takes(t, "MaxNum", v, wantBytes(v))
	notApplied(t, "beyond MaxNum", v, nil, nil)
	notApplied(t, "beyond MaxNum", v, []int{9}, nil)
	notApplied(t, "beyond MaxNum", Version{Gen: 1 << 40}, nil, nil)
	full := Version{Next: 1 << 40, Tables: newest(4096)}
	one := note(5000, 1, "a", "b")
	notApplied(t, "one too many", full, nil, []Meta{one})
	applied(t, "one for another", full, []int{4095}, []Meta{one}, append(newest(4095), one)...)
	applied(t, "all dropped", full, nums(full.Tables), nil)
	applied(t, "4096 at once", Version{Next: 1 << 40}, nil, full.Tables, full.Tables...)
	notApplied(t, "4097 at once", Version{Next: 1 << 40}, nil, newest(4097))
	row := inRow(4096, 2)
	backwards := slices.Clone(row)
	slices.Reverse(backwards)
	applied(t, "4096, backwards", Version{Next: 1 << 40}, nil, backwards, row...)
	applied(t, "4096 for 4096", full, nums(full.Tables), backwards, row...)
}

// P10.2, P1: a version that may not be is refused, also where what comes of it would do.
func TestApplyWrong(t *testing.T) {
	for what, v := range map[string]Version{
		"out of order": version(note(3, 0, "a", "b"), note(5, 0, "a", "b")),
		"Gen -1":       {Gen: -1},
		"Gen -2":       {Gen: -2},
		"a bad note":   version(note(3, 7, "a", "b")),
		"a Num twice":  version(note(3, 1, "a", "b"), note(3, 2, "a", "b")),
		"4097 notes":   {Next: 1 << 40, Tables: newest(4097)},
	} {
		notApplied(t, what, v, nil, nil)
		notApplied(t, what, v, []int{3}, nil)
		notApplied(t, what, v, nums(v.Tables), nil)
		notApplied(t, what, v, nil, []Meta{note(50, 0, "a", "b")})
	}
}

// P10.3: keys below, at, between and above First and Last, in several levels.
func TestFind(t *testing.T) {
	v := some()
	for _, x := range []struct {
		key  string
		want []int
	}{
		{"", nil},
		{"\x00", nil},
		{"Z", nil},
		{"`\xff", nil},
		{"a", []int{7, 1}},
		{"a\x00", []int{7, 1, 11}},
		{"b", []int{7, 3, 1, 11, 0}},
		{"c", []int{9, 7, 3, 1, 11, 0}},
		{"c\x00", []int{9, 7, 3, 11, 0}},
		{"d", []int{9, 7, 3, 11, 0}},
		{"e", []int{9, 7, 3, 20, 11, 0}},
		{"f", []int{9, 7, 3, 20, 11, 0}},
		{"f\x00", []int{9, 7, 20, 10, 0}},
		{"g", []int{9, 7, 20, 10, 0}},
		{"g\x00", []int{9, 7, 10, 0}},
		{"ga", []int{9, 7, 2, 10, 0}},
		{"ga\x00", []int{9, 7, 10, 0}},
		{"p", []int{9, 7, 10, 0}},
		{"pp", []int{7, 10, 0}},
		{"y", []int{7, 10, 0}},
		{"y\x00", []int{7, 10}},
		{"z", []int{7, 10}},
		{"z\x00", []int{10}},
		{"zz", []int{10}},
		{"zz\x00", nil},
		{"zzz", nil},
		{"\xff", nil},
		{strings.Repeat("e", 64), []int{9, 7, 3, 20, 11, 0}},
		{strings.Repeat("e", 65), []int{9, 7, 3, 20, 11, 0}}, // no key of a table, yet between two
		{strings.Repeat("\xff", 1000), nil},
	} {
		finds(t, v, []byte(x.key), x.want...)
		finds(t, Version{}, []byte(x.key))
		finds(t, Version{Gen: 5, Next: 9}, []byte(x.key))
	}
	finds(t, v, nil)
	finds(t, Version{}, nil)
	finds(t, version(newest(100)...), []byte("k"), nums(newest(100))...)
}

// P10.3: the notes of each level, of none that there is not.
func TestLevel(t *testing.T) {
	v := some()
	levels(t, v, 0, v.Tables[:3]...)
	levels(t, v, 1, v.Tables[3:6]...)
	levels(t, v, 2, v.Tables[6:8]...)
	levels(t, v, 3, v.Tables[8])
	for _, level := range []int{math.MinInt, -1, 4, 5, 1 << 32, math.MaxInt} {
		levels(t, v, level)
	}
	gap := version(note(4, 0, "a", "b"), note(3, 2, "a", "b"))
	levels(t, gap, 1)
	levels(t, gap, 2, gap.Tables[1])
	levels(t, gap, 3)
	for _, level := range []int{math.MinInt, -1, 0, 1, 2, 3, 4, math.MaxInt} {
		levels(t, Version{}, level)
		levels(t, Version{Next: 5}, level)
	}
	row := inRow(4096, 3)
	levels(t, Version{Next: 1 << 40, Tables: row}, 3, row...)
}

// R4: of a version that may not be the notes are taken as they are.
func TestAsTheyAre(t *testing.T) {
	v := Version{Gen: -1, Tables: []Meta{note(3, 0, "a", "c"), note(5, 0, "b", "d"), note(5, 9, "", "z"), note(-1, 1, "z", "a"), note(7, -1, "b", "b"), {}}}
	finds(t, v, []byte("b"), 3, 5, 5, 7)
	finds(t, v, nil, 5, 0)
	levels(t, v, 0, v.Tables[0], v.Tables[1], v.Tables[5])
	levels(t, v, 9, v.Tables[2])
	levels(t, v, -1, v.Tables[4])
}

// All calls, asked of the zero version.
func TestZeroVersion(t *testing.T) {
	takes(t, "zero", Version{}, make([]byte, 5))
	applied(t, "zero", Version{}, nil, nil)
	notApplied(t, "no Num is below Next", Version{}, nil, []Meta{note(0, 0, "a", "b")})
	notApplied(t, "a zero note", Version{}, nil, []Meta{{}})
	finds(t, Version{}, []byte("a"))
	levels(t, Version{}, 0)
	for n := range 12 {
		if n != 5 {
			corrupt(t, fmt.Sprint(n, " noughts"), make([]byte, n))
		}
	}
}

// random is a version that may be, of up to n notes.
func random(r *rand.Rand, n int) Version {
	v := Version{Gen: r.IntN(300), Next: 60 + r.IntN(200), Log: r.IntN(300), Seq: r.IntN(300)}
	for _, num := range r.Perm(60)[:r.IntN(n+1)] {
		with := v
		with.Tables = ordered(append(slices.Clone(v.Tables), randomNote(r, num)))
		if wantOK(with) {
			v = with
		}
	}
	return v
}

func randomNote(r *rand.Rand, num int) Meta {
	ends := []string{string(randomKey(r)), string(randomKey(r))}
	slices.Sort(ends)
	m := note(num, r.IntN(4), ends[0], ends[1])
	m.Count = 1 + r.IntN(64)
	return m
}

func randomKey(r *rand.Rand) []byte {
	b := make([]byte, 1+r.IntN(3))
	for i := range b {
		b[i] = "\x00abz\xff"[r.IntN(5)]
	}
	return b
}

// P10.1 to P10.4: long walks against the chapter's words.
func TestWalks(t *testing.T) {
	r := rand.New(rand.NewPCG(10, 1))
	ok, not := 0, 0
	for range 3000 {
		v := random(r, 12)
		judged(t, "a walk", v)
		var drop []int
		for _, m := range v.Tables {
			if r.IntN(4) == 0 {
				drop = append(drop, m.Num)
			}
		}
		if r.IntN(8) == 0 {
			drop = append(drop, r.IntN(70))
		}
		r.Shuffle(len(drop), func(i, j int) { drop[i], drop[j] = drop[j], drop[i] })
		var add []Meta
		for range r.IntN(4) {
			add = append(add, randomNote(r, 20+r.IntN(60)))
		}
		want, good := wantApply(v, drop, add)
		if !good {
			not++
			notApplied(t, "a walk", v, drop, add)
			continue
		}
		ok++
		w := applied(t, "a walk", v, drop, add, want.Tables...)
		for range 10 {
			k := randomKey(r)
			finds(t, w, k, wantFind(want, k)...)
		}
		for level := -1; level < 5; level++ {
			levels(t, w, level, wantLevel(want, level)...)
		}
		turned := wantBytes(v)
		turned[r.IntN(len(turned))] = byte(r.IntN(256))
		decodes(t, "a walk, turned", turned)
		if len(v.Tables) > 1 {
			r.Shuffle(len(v.Tables), func(i, j int) { v.Tables[i], v.Tables[j] = v.Tables[j], v.Tables[i] })
			judged(t, "a walk, shuffled", v)
		}
	}
	if ok < 500 || not < 500 {
		t.Errorf("%d applied, %d not: too few of a kind", ok, not)
	}
}

// P10.4: Decode of Encode is the version; no two versions have the same bytes.
func TestFollowsBytes(t *testing.T) {
	r := rand.New(rand.NewPCG(10, 2))
	seen := map[string]Version{}
	for range 3000 {
		v := random(r, 10)
		b, e := Encode(v)
		w, f := Decode(b)
		if e != api.OK || f != api.OK || !alike(v, w) {
			t.Errorf("%s: %s %v %v", short(v), short(w), e, f)
		}
		if other, ok := seen[string(b)]; ok && !alike(other, v) {
			t.Errorf("%s and %s have the same bytes", short(v), short(other))
		}
		seen[string(b)] = v
	}
}

// P10.4: of a level above 0 Find tells one table at most.
func TestFollowsFind(t *testing.T) {
	r := rand.New(rand.NewPCG(10, 3))
	most := 0
	for range 1000 {
		v := random(r, 30)
		for range 20 {
			k := randomKey(r)
			byLevel := map[int]int{}
			for _, n := range Find(v, k) {
				byLevel[v.Tables[slices.Index(nums(v.Tables), n)].Level]++
			}
			for level := 1; level <= 3; level++ {
				if byLevel[level] > 1 {
					t.Errorf("%s: Find(%q) tells %d of level %d", short(v), k, byLevel[level], level)
				}
			}
			most = max(most, byLevel[0])
		}
	}
	if most < 2 {
		t.Error("of level 0 it tells never two")
	}
}

// P10.4: what is applied and taken back leaves the notes as they were.
func TestFollowsBack(t *testing.T) {
	r := rand.New(rand.NewPCG(10, 4))
	back := 0
	for range 2000 {
		v := random(r, 12)
		var drop []int
		var dropped, add []Meta
		for _, m := range v.Tables {
			if r.IntN(3) == 0 {
				drop, dropped = append(drop, m.Num), append(dropped, m)
			}
		}
		for i := range r.IntN(4) {
			add = append(add, randomNote(r, 60+i))
		}
		v.Next += 10
		w, e := Apply(v, drop, add)
		if e != api.OK {
			continue
		}
		back++
		r.Shuffle(len(dropped), func(i, j int) { dropped[i], dropped[j] = dropped[j], dropped[i] })
		x := applied(t, "back", w, nums(add), dropped, v.Tables...)
		if x.Gen != v.Gen+2 {
			t.Errorf("Gen %d behind two steps from %d", x.Gen, v.Gen)
		}
	}
	if back < 500 {
		t.Errorf("only %d were taken back", back)
	}
}

// R1, R2: nil arguments, and zero values beside an error.
func TestNil(t *testing.T) {
	if b, e := Encode(Version{Gen: -1}); b != nil || e != api.ErrArg {
		t.Errorf("Encode: % X %v", b, e)
	}
	if v, e := Decode(nil); !zero(v) || e != api.ErrCorrupt {
		t.Errorf("Decode(nil): %s %v", short(v), e)
	}
	if v, e := Apply(Version{Gen: -1}, nil, nil); !zero(v) || e != api.ErrArg {
		t.Errorf("Apply: %s %v", short(v), e)
	}
	refused(t, "zero notes", Version{Next: 9, Tables: make([]Meta, 3)})
	finds(t, Version{Tables: make([]Meta, 2)}, nil, 0, 0)
	finds(t, Version{Tables: make([]Meta, 2)}, []byte("a"))
	for _, n := range []int{math.MinInt, math.MaxInt} {
		v := Version{Gen: n, Next: n, Log: n, Seq: n, Tables: []Meta{{Num: n, Level: n, Count: n}}}
		refused(t, "ends of all numbers", v)
		levels(t, v, n, v.Tables...)
		notApplied(t, "ends of all numbers", some(), []int{n}, v.Tables)
		notApplied(t, "ends of all numbers", some(), nil, v.Tables)
	}
}

// roomy are the same bytes with room behind them, all of it full of 170.
func roomy(b []byte) []byte {
	out := bytes.Repeat([]byte{170}, len(b)+16)
	copy(out, b)
	return out[:len(b)]
}

func roomyNotes(l []Meta) []Meta {
	out := make([]Meta, len(l), len(l)+3)
	for i, m := range l {
		m.First, m.Last = roomy(m.First), roomy(m.Last)
		out[i] = m
	}
	return out
}

// all tells notes with the room behind them and behind their bytes.
func all(l []Meta) string {
	s := fmt.Sprintf("%d of %d", len(l), cap(l))
	for _, m := range l[:cap(l)] {
		s += fmt.Sprintf(" / %d %d %d %x %x", m.Num, m.Level, m.Count, m.First[:cap(m.First)], m.Last[:cap(m.Last)])
	}
	return s
}

// R3: what is handed in is as it was, also the room behind it.
func TestHandedIn(t *testing.T) {
	wrong := version(note(3, 0, "a", "b"), note(5, 0, "a", "b"), note(3, 1, "z", "a"))
	for _, v := range []Version{some(), wrong, {}} {
		in := v
		in.Tables = roomyNotes(v.Tables)
		was := all(in.Tables)
		add := roomyNotes([]Meta{note(51, 3, "z", "z"), note(50, 1, "h", "z"), note(52, 0, "a", "b")})
		addWas := all(add)
		drop := append(make([]int, 0, 9), 20, 0, 9)
		k := roomy([]byte("e"))
		Check(in)
		Encode(in)
		Apply(in, drop, add)
		Apply(in, drop[:1], add)
		Apply(in, nil, add)
		Apply(in, drop, nil)
		Apply(in, drop, append(add, add[0]))
		Find(in, k)
		for level := range 4 {
			Level(in, level)
		}
		if is := all(in.Tables); is != was {
			t.Errorf("%s; was %s", is, was)
		}
		add = add[:3]
		add[:4][3] = Meta{} // which the append above has filled
		if is := all(add); is != addWas {
			t.Errorf("%s; was %s", is, addWas)
		}
		if !slices.Equal(drop[:9], []int{20, 0, 9, 0, 0, 0, 0, 0, 0}) || !bytes.Equal(k[:cap(k)], roomy([]byte("e"))[:cap(k)]) {
			t.Errorf("%v %x", drop[:9], k[:cap(k)])
		}
	}
	whole := wantBytes(some())
	for _, b := range [][]byte{roomy(whole), roomy(whole[:len(whole)-1]), roomy(whole[:20]), roomy(nil)} {
		was := bytes.Clone(b[:cap(b)])
		Decode(b)
		if !bytes.Equal(b[:cap(b)], was) {
			t.Errorf("% X; was % X", b[:cap(b)], was)
		}
	}
}

// turn turns all bytes, and those of the room behind them.
func turn(b []byte) {
	b = b[:cap(b)]
	for i := range b {
		b[i] ^= 255
	}
}

func spoil(l []Meta) {
	l = l[:cap(l)]
	for i := range l {
		turn(l[i].First)
		turn(l[i].Last)
		l[i].Num, l[i].Level, l[i].Count = -9, -9, -9
	}
}

// R3: what is answered is new memory, and no two lists of an answer share any.
func TestAnswered(t *testing.T) {
	want := some()
	in := some()
	in.Tables = roomyNotes(want.Tables)
	add := roomyNotes([]Meta{note(51, 3, "z", "zz"), note(50, 1, "h", "z")})
	b := roomy(wantBytes(want))
	k := []byte("e")
	drop := []int{9, 20}

	encoded, _ := Encode(in)
	decoded, _ := Decode(b)
	stepped, _ := Apply(in, drop, add)
	same, _ := Apply(in, nil, nil)
	found := Find(in, k)
	level := Level(in, 1)
	wantStepped, ok := wantApply(want, []int{9, 20}, []Meta{note(51, 3, "z", "zz"), note(50, 1, "h", "z")})

	hold := func(what string) {
		t.Helper()
		if !bytes.Equal(encoded, wantBytes(want)) || !alike(decoded, want) || !ok || !alike(stepped, wantStepped) ||
			!alikeNotes(same.Tables, want.Tables) || !slices.Equal(found, wantFind(want, []byte("e"))) || !alikeNotes(level, want.Tables[3:6]) {
			t.Errorf("%s turns what was answered", what)
		}
	}
	hold("nothing")
	turn(b)
	turn(k)
	spoil(add)
	drop[0], drop[1] = -1, -1
	spoil(in.Tables)
	hold("what was handed in")

	again := some()
	again.Tables = roomyNotes(want.Tables)
	was := all(again.Tables)
	for _, answer := range []func() []Meta{
		func() []Meta { v, _ := Apply(again, nil, nil); return v.Tables },
		func() []Meta { v, _ := Apply(again, []int{9}, []Meta{again.Tables[0]}); return v.Tables },
		func() []Meta { v, _ := Decode(wantBytes(want)); return v.Tables },
		func() []Meta { return Level(again, 0) },
		func() []Meta { return Level(again, 1) },
		func() []Meta { return Level(again, 3) },
	} {
		l, others := answer(), answer()
		for i := range l {
			for _, end := range [][]byte{l[i].First, l[i].Last} {
				turn(end)
				turned := 0
				for j := range l {
					if !bytes.Equal(l[j].First, others[j].First) {
						turned++
					}
					if !bytes.Equal(l[j].Last, others[j].Last) {
						turned++
					}
				}
				if turned != 1 {
					t.Errorf("%d ends are turned by one of note %d", turned, i)
				}
				turn(end)
			}
		}
		spoil(l)
		if !alikeNotes(others, answer()) || all(again.Tables) != was {
			t.Error("what was answered turns others")
		}
	}
}

// R3: one Meta handed in twice, its ends the same bytes, leaves no two ends of an answer that share any.
func TestSharedIn(t *testing.T) {
	end := []byte("k")
	v, e := Apply(version(Meta{Num: 5, Count: 1, First: end, Last: end}), nil, []Meta{{Num: 4, Count: 1, First: end, Last: end}})
	if e != api.OK || len(v.Tables) != 2 {
		t.Fatal(short(v), e)
	}
	v.Tables[0].First[0] = 'x'
	if string(v.Tables[0].Last)+string(v.Tables[1].First)+string(v.Tables[1].Last)+string(end) != "kkkk" {
		t.Error(short(v), string(end))
	}
}

// Ways: the order that notes are put in, by its method expression, is the chapter's, of any two notes one way alone.
func TestMethodExpression(t *testing.T) {
	order := Meta.order
	r := rand.New(rand.NewPCG(10, 5))
	for range 5000 {
		m, n := randomNote(r, r.IntN(5)), randomNote(r, r.IntN(5))
		if (order(m, n) < 0) != isAhead(m, n) || (order(m, n) > 0) != isAhead(n, m) || order(m, m) != 0 {
			t.Errorf("%s: %d", shortNotes([]Meta{m, n}), order(m, n))
		}
	}
}

// Calls at once, of one version, answer as calls one by one.
func TestAtOnce(t *testing.T) {
	v := some()
	b := wantBytes(v)
	var wg sync.WaitGroup
	for range 8 {
		wg.Go(func() {
			for range 50 {
				takes(t, "at once", v, b)
				applied(t, "at once", v, []int{9}, []Meta{note(9, 0, "c", "p")}, v.Tables...)
				finds(t, v, []byte("e"), 9, 7, 3, 20, 11, 0)
				levels(t, v, 3, v.Tables[8])
				corrupt(t, "at once", b[1:])
			}
		})
	}
	wg.Wait()
}

// FuzzEdit holds Decode against a reader that asks nothing of Encode.
func FuzzEdit(f *testing.F) {
	for _, v := range versions() {
		f.Add(wantBytes(v))
	}
	f.Add([]byte{})
	f.Add([]byte{0, 0, 0, 0, 255, 255, 255, 255, 255, 255, 255, 255, 63})
	f.Fuzz(func(t *testing.T, b []byte) {
		decodes(t, "these", b)
		decodes(t, "these behind numbers", append([]byte{1, 100, 1, 1}, b...))
	})
}

// FuzzApply holds steps of whatever notes bytes tell against the chapter's words.
func FuzzApply(f *testing.F) {
	f.Add([]byte{5, 0, 'a', 'b', 3, 0, 'a', 'c', 4, 1, 'a', 'z'}, []byte{3}, []byte{6, 1, 'A', 'B'})
	f.Add([]byte{}, []byte{}, []byte{1, 2, 'a', 'b', 2, 2, 'b', 'c'})
	f.Add([]byte{1, 1, 'a', 'b', 2, 1, 'c', 'd'}, []byte{1, 1}, []byte{})
	f.Fuzz(func(t *testing.T, have, drop, add []byte) {
		if len(have)+len(add) > 400 {
			return
		}
		v := version(ordered(fuzzNotes(have))...)
		judged(t, "as they stand", version(fuzzNotes(have)...))
		judged(t, "in order", v)
		var numbers []int
		for _, x := range drop {
			numbers = append(numbers, int(x))
		}
		want, ok := wantApply(v, numbers, fuzzNotes(add))
		if !ok {
			notApplied(t, "these", v, numbers, fuzzNotes(add))
			return
		}
		w := applied(t, "these", v, numbers, fuzzNotes(add), want.Tables...)
		for _, m := range w.Tables {
			finds(t, w, m.First, wantFind(want, m.First)...)
			finds(t, w, m.Last, wantFind(want, m.Last)...)
			levels(t, w, m.Level, wantLevel(want, m.Level)...)
		}
	})
}

// fuzzNotes are notes, each told by four bytes.
func fuzzNotes(b []byte) []Meta {
	var out []Meta
	for ; len(b) >= 4; b = b[4:] {
		out = append(out, Meta{Num: int(b[0]), Level: int(b[1] % 5), Count: int(b[1]/5) + 14, First: b[2:3], Last: b[3:4]})
	}
	return out
}
