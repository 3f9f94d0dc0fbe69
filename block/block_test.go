package block

import (
	"bytes"
	"encoding/binary"
	"encoding/hex"
	"fmt"
	"hash/crc32"
	"math"
	"math/rand/v2"
	"slices"
	"strings"
	"sync"
	"testing"

	"sawyer/api"
)

// sample is n bytes that aren't alike.
func sample(n int) []byte {
	b := make([]byte, n)
	x := uint32(n)*2654435761 + 1
	for i := range b {
		x = x*1664525 + 1013904223
		b[i] = byte(x >> 24)
	}
	return b
}

// put is an entry that is there, gone one that isn't any more.
func put(key string, seq int, value string) api.Entry {
	return api.Entry{Key: []byte(key), Seq: seq, Value: []byte(value)}
}

func gone(key string, seq int) api.Entry {
	return api.Entry{Key: []byte(key), Seq: seq, Gone: true}
}

func alike(a, b api.Entry) bool {
	return bytes.Equal(a.Key, b.Key) && a.Seq == b.Seq && a.Gone == b.Gone && bytes.Equal(a.Value, b.Value)
}

func allAlike(a, b []api.Entry) bool { return slices.EqualFunc(a, b, alike) }

// zero: is an entry the zero value?
func zero(e api.Entry) bool { return e.Key == nil && e.Seq == 0 && !e.Gone && e.Value == nil }

// short tells entries, long keys and values by their lengths.
func short(l []api.Entry) string {
	var out []string
	for _, e := range l {
		s := fmt.Sprintf("%.20q of %d, %d, %.20q of %d", e.Key, len(e.Key), e.Seq, e.Value, len(e.Value))
		if e.Gone {
			s += ", gone"
		}
		out = append(out, "("+s+")")
	}
	return strings.Join(out, " ")
}

// plain are the bytes that hexadecimal digits say, whatever spaces stand between them.
func plain(t *testing.T, digits string) []byte {
	t.Helper()
	b, err := hex.DecodeString(strings.ReplaceAll(digits, " ", ""))
	if err != nil {
		t.Fatal(err)
	}
	return b
}

// summed are bytes and Go's own sum of them, the highest byte first.
func summed(b []byte) []byte {
	return binary.BigEndian.AppendUint32(bytes.Clone(b), crc32.ChecksumIEEE(b))
}

// wantOK: may entries be a block, by the chapter's words?
func wantOK(l []api.Entry) bool {
	for i, e := range l {
		if len(e.Key) < 1 || len(e.Key) > 64 || e.Seq < 0 || e.Seq > 1<<40 || len(e.Value) > 1024 || e.Gone && len(e.Value) > 0 {
			return false
		}
		if i == 0 {
			continue
		}
		c := bytes.Compare(l[i-1].Key, e.Key)
		if c > 0 || c == 0 && l[i-1].Seq <= e.Seq {
			return false
		}
	}
	return len(l) >= 1 && len(l) <= 8
}

// wantBytes are the bytes that the chapter asks for, by Go's own library; also of entries that may not be a block.
func wantBytes(l []api.Entry) []byte {
	b := binary.AppendUvarint(nil, uint64(len(l)))
	last := ""
	for _, e := range l {
		share := 0
		for strings.HasPrefix(last, string(e.Key[:share])) {
			if share++; share > len(e.Key) {
				break
			}
		}
		share--
		mark := uint64(e.Seq) * 2
		if e.Gone {
			mark |= 1
		}
		b = append(bytes.Clone(b), line(uint64(share), e.Key[share:], mark, e.Value)...)
		last = string(e.Key)
	}
	return summed(b)
}

// line is one entry of a block as bytes, whatever is said of it.
func line(share uint64, rest []byte, mark uint64, value []byte) []byte {
	b := binary.AppendUvarint(nil, share)
	b = append(binary.AppendUvarint(b, uint64(len(rest))), rest...)
	b = binary.AppendUvarint(b, mark)
	return append(binary.AppendUvarint(b, uint64(len(value))), value...)
}

// A strict reader: each thing that Build never lays is refused where it stands.
type strict struct {
	b   []byte
	bad bool
}

func (s *strict) num() uint64 {
	n, size := binary.Uvarint(s.b)
	if size <= 0 || size > 1 && s.b[size-1] == 0 || n > 1<<62-1 {
		s.b, s.bad = nil, true
		return 0
	}
	s.b = s.b[size:]
	return n
}

func (s *strict) text() []byte {
	n := s.num()
	if n > uint64(len(s.b)) {
		s.b, s.bad = nil, true
		return nil
	}
	out := s.b[:n]
	s.b = s.b[n:]
	return out
}

// wantParse are the entries of bytes, without asking what would be built of them; false, if there are none.
func wantParse(b []byte) ([]api.Entry, bool) {
	if len(b) < 4 || binary.BigEndian.Uint32(b[len(b)-4:]) != crc32.ChecksumIEEE(b[:len(b)-4]) {
		return nil, false
	}
	s := &strict{b: b[:len(b)-4]}
	var out []api.Entry
	count := s.num()
	if count > 8 {
		return nil, false
	}
	last := []byte(nil)
	for range count {
		share := s.num()
		rest := s.text()
		mark := s.num()
		value := s.text()
		if s.bad || share > uint64(len(last)) {
			return nil, false
		}
		if behind := last[share:]; len(behind) > 0 && len(rest) > 0 && behind[0] == rest[0] { // one more is shared
			return nil, false
		}
		e := api.Entry{Key: append(bytes.Clone(last[:share]), rest...), Seq: int(mark >> 1), Gone: mark&1 == 1, Value: value}
		out = append(out, e)
		last = e.Key
	}
	if s.bad || len(s.b) > 0 || !wantOK(out) {
		return nil, false
	}
	return out, true
}

// builds fails, unless Check takes entries, Build lays them as these bytes, and Parse has them back.
func builds(t *testing.T, l []api.Entry, want []byte) {
	t.Helper()
	if e := Check(l); e != api.OK {
		t.Errorf("Check(%s): %v", short(l), e)
	}
	b, e := Build(l)
	if e != api.OK || !bytes.Equal(b, want) {
		t.Errorf("Build(%s): % X %v; not % X", short(l), b, e, want)
	}
	parses(t, want, l)
}

func parses(t *testing.T, b []byte, want []api.Entry) {
	t.Helper()
	if l, e := Parse(b); e != api.OK || !allAlike(l, want) {
		t.Errorf("Parse(% .60X): %s %v; not %s", b, short(l), e, short(want))
	}
}

// refused fails, unless Check and Build refuse entries, and Parse what they would be.
func refused(t *testing.T, what string, l []api.Entry) {
	t.Helper()
	if e := Check(l); e != api.ErrArg {
		t.Errorf("Check of %s, %s: %v", what, short(l), e)
	}
	if b, e := Build(l); b != nil || e != api.ErrArg {
		t.Errorf("Build of %s, %s: % .60X %v", what, short(l), b, e)
	}
	if !slices.ContainsFunc(l, func(e api.Entry) bool { return e.Seq < 0 }) { // no bytes say such a one
		corrupt(t, what, wantBytes(l))
	}
}

func corrupt(t *testing.T, what string, b []byte) {
	t.Helper()
	if l, e := Parse(b); l != nil || e != api.ErrCorrupt {
		t.Errorf("Parse of %s, % .60X: %s %v", what, b, short(l), e)
	}
}

// finds fails, unless Find answers that; nothing, where nothing is wanted.
func finds(t *testing.T, l []api.Entry, key string, seq int, want ...api.Entry) {
	t.Helper()
	e, ok := Find(l, []byte(key), seq)
	if ok != (len(want) == 1) || ok && !alike(e, want[0]) || !ok && !zero(e) {
		t.Errorf("Find(%s, %.20q, %d): %s %v; not %s", short(l), key, seq, short([]api.Entry{e}), ok, short(want))
	}
}

// inRow are n entries that may be a block, of keys that share some bytes.
func inRow(n int) []api.Entry {
	var out []api.Entry
	for i := range n {
		out = append(out, put(fmt.Sprintf("key %02d", i), i, fmt.Sprint("value ", i)))
	}
	return out
}

// longest are entries whose block is as long as one can be.
func longest() []api.Entry {
	var out []api.Entry
	for i := range 8 {
		k := sample(64)
		k[0] = byte(i)
		out = append(out, api.Entry{Key: k, Seq: 1 << 40, Value: sample(1024)})
	}
	return out
}

// wrongEntries are entries that may not be, each for one cause.
func wrongEntries(key string) map[string]api.Entry {
	return map[string]api.Entry{
		"no key":                 put("", 1, "v"),
		"nil key":                {Seq: 1, Value: []byte("v")},
		"a key of 65 bytes":      put(key+strings.Repeat("x", 65-len(key)), 1, "v"),
		"a key of 300 bytes":     put(key+strings.Repeat("x", 300-len(key)), 1, "v"),
		"Seq -1":                 put(key, -1, "v"),
		"the least Seq":          put(key, math.MinInt, "v"),
		"Seq 2^40+1":             put(key, 1<<40+1, "v"),
		"Seq 2^41":               put(key, 1<<41, "v"),
		"Seq 2^61":               put(key, 1<<61, "v"),
		"the greatest Seq":       put(key, math.MaxInt, "v"),
		"a value of 1025 bytes":  put(key, 1, strings.Repeat("v", 1025)),
		"a value of 9000 bytes":  put(key, 1, strings.Repeat("v", 9000)),
		"gone with a value":      {Key: []byte(key), Seq: 1, Gone: true, Value: []byte{0}},
		"gone with a long value": {Key: []byte(key), Seq: 1, Gone: true, Value: sample(1024)},
		"gone, a key of 65":      gone(key+strings.Repeat("x", 65-len(key)), 1),
		"gone, Seq 2^40+1":       gone(key, 1<<40+1),
		"gone, no key":           gone("", 1),
	}
}

// Example 1.
func TestExample(t *testing.T) {
	l := []api.Entry{put("a", 3, "x"), gone("ab", 2)}
	builds(t, l, plain(t, "02 00 01 61 06 01 78 01 01 62 05 00 07 A5 8E 68"))
}

// P8.2: bytes reckoned by hand.
func TestKnown(t *testing.T) {
	for _, x := range []struct {
		l    []api.Entry
		want string
	}{
		{[]api.Entry{put("\x00", 0, "")}, "01 00 01 00 00 00 C2221563"},
		{[]api.Entry{gone("a", 0)}, "01 00 01 61 01 00 922C8535"},
		{[]api.Entry{put("ab", 5, ""), gone("ab", 3), put("ac", 1<<40, "xy")},
			"03 00026162 0A 00 02 00 07 00 01 0163 808080808040 027879 6148507A"},
		{[]api.Entry{put("a", 1, ""), put("abc", 150, "z"), gone("b", 1<<40)},
			"03 000161 02 00 01026263 AC02 017A 000162 818080808040 00 7707DAD8"},
	} {
		builds(t, x.l, plain(t, x.want))
	}
}

// P8.1: one to eight entries are a block, none, nine and more are not.
func TestCount(t *testing.T) {
	for n := 1; n <= 8; n++ {
		builds(t, inRow(n), wantBytes(inRow(n)))
	}
	for _, none := range [][]api.Entry{nil, {}, make([]api.Entry, 0, 8), inRow(8)[:0]} {
		refused(t, "no entries", none)
	}
	for _, n := range []int{9, 10, 16, 64, 100} {
		refused(t, fmt.Sprint(n, " entries"), inRow(n))
	}
	refused(t, "nine zero entries", make([]api.Entry, 9))
	refused(t, "a zero entry", make([]api.Entry, 1))
}

// P8.1: an entry that may not be is refused at each place.
func TestWrongEntries(t *testing.T) {
	for what, wrong := range wrongEntries("key 03") {
		refused(t, what, []api.Entry{wrong})
		l := inRow(8)
		for at := range l {
			m := slices.Clone(l)
			m[at] = wrong
			if at == 3 || len(wrong.Key) == 0 && at == 0 {
				refused(t, fmt.Sprint(what, " in place"), m)
			}
			if e := Check(m); e != api.ErrArg {
				t.Errorf("%s at %d: %v", what, at, e)
			}
		}
		refused(t, what+" at the end", append(inRow(3), wrong))
		refused(t, what+" ahead", append([]api.Entry{wrong}, put("z", 1, "")))
	}
}

// P8.1: each goes ahead of the next one, by key, of one key the greater Seq first.
func TestOrder(t *testing.T) {
	most := strings.Repeat("\xff", 64)
	for _, l := range [][]api.Entry{
		{put("a", 1, ""), put("b", 1, "")},
		{put("a", 1, ""), put("b", 2, "")},
		{put("a", 2, ""), put("b", 1, "")},
		{put("a", 2, ""), put("a", 1, "")},
		{put("a", 1<<40, ""), put("a", 0, "")},
		{gone("a", 2), put("a", 1, "x"), gone("a", 0)},
		{put("a", 1, ""), put("aa", 1, ""), put("ab", 1, "")},
		{put("a", 9, ""), put("a\x00", 9, "")},
		{put("\x7f", 1, ""), put("\x80", 1, "")},
		{put("\x00", 1, ""), put("\x00\x00", 1, ""), put("\x01", 1, "")},
		{put(most[:63], 1, ""), put(most, 2, ""), put(most, 1, "")},
	} {
		builds(t, l, wantBytes(l))
	}
	for _, l := range [][]api.Entry{
		{put("a", 1, ""), put("a", 1, "")},
		{put("a", 1, "x"), gone("a", 1)},
		{gone("a", 1), put("a", 1, "x")},
		{gone("a", 0), gone("a", 0)},
		{put("a", 1, ""), put("a", 2, "")},
		{gone("a", 1), put("a", 1<<40, "")},
		{put("b", 1, ""), put("a", 1, "")},
		{put("b", 2, ""), put("a", 1, "")},
		{put("b", 1, ""), put("a", 2, "")},
		{put("ab", 1, ""), put("a", 1, "")},
		{put("ab", 9, ""), put("a", 1, "")},
		{put("a\x00", 1, ""), put("a", 1, "")},
		{put("\x80", 1, ""), put("\x7f", 1, "")},
		{put(most, 1, ""), put(most[:63], 1, "")},
		{put("a", 1, ""), put("c", 1, ""), put("b", 1, "")},
		{put("a", 1, ""), put("b", 1, ""), put("a", 0, "")},
	} {
		refused(t, "out of order", l)
	}
	for at := range 7 { // wherever it is that two do not go so
		l := inRow(8)
		l[at], l[at+1] = l[at+1], l[at]
		refused(t, fmt.Sprint("turned at ", at), l)
		l = inRow(8)
		l[at+1] = l[at]
		refused(t, fmt.Sprint("twice at ", at), l)
	}
}

// P8.2: keys of all lengths, which share all, some or none of their bytes with the one ahead.
func TestShare(t *testing.T) {
	long := string(sample(64))
	for _, x := range []struct {
		first, second string
		share         int
	}{
		{"a", "b", 0}, {"a", "ab", 1}, {"ab", "ac", 1}, {"ab", "b", 0}, {"ab", "bb", 0}, {"abc", "abd", 2}, {"abc", "adc", 1}, {"abcd", "abd", 2},
		{"a", "a", 1}, {"abc", "abc", 3}, {"\x00", "\x00\x00", 1}, {long[:63], long, 63}, {long[:1], long, 1}, {long, long, 64},
		{long[:63] + "\x00", long[:63] + "\x01", 63}, {"\x00" + long[1:], "\x01" + long[1:], 0},
	} {
		l := []api.Entry{put(x.first, 7, "v"), put(x.second, 4, "w")}
		want := append([]byte{2}, line(0, []byte(x.first), 14, []byte("v"))...)
		want = append(want, line(uint64(x.share), []byte(x.second[x.share:]), 8, []byte("w"))...)
		builds(t, l, summed(want))
	}
	// What is shared is held against the one ahead, not against the first or the longest.
	l := []api.Entry{put("abc", 1, ""), put("ad", 1, ""), put("adbc", 1, ""), put("b", 1, ""), put("bc", 1, "")}
	builds(t, l, summed(plain(t, "05 0003616263 0200 010164 0200 02026263 0200 000162 0200 010163 0200")))
	for n := 1; n <= 64; n++ {
		l := []api.Entry{{Key: sample(64)[:n], Seq: n}}
		builds(t, l, wantBytes(l))
	}
}

// P8.2: values and Seqs of all edges, gone or not.
func TestValues(t *testing.T) {
	for _, seq := range []int{0, 1, 2, 31, 32, 63, 64, 65, 127, 128, 8191, 8192, 1<<21 - 1, 1 << 27, 1<<40 - 1, 1 << 40} {
		for _, size := range []int{0, 1, 2, 127, 128, 129, 1023, 1024} {
			l := []api.Entry{{Key: []byte("k"), Seq: seq, Value: sample(size)}, put("l", 1, "")}
			builds(t, l, wantBytes(l))
		}
		l := []api.Entry{gone("k", seq), put("l", 1, "x"), gone("m", seq)}
		builds(t, l, wantBytes(l))
	}
	l := longest()
	b, _ := Build(l)
	if len(b) != 1+8*(1+65+6+1026)+4 {
		t.Errorf("the longest block: %d bytes", len(b))
	}
	builds(t, l, wantBytes(l))
	corrupt(t, "a byte behind the longest block", append(b, 0))
}

// Whether an empty value, or that of a gone entry, is nil or not turns no byte.
func TestNilAndEmpty(t *testing.T) {
	for _, wasGone := range []bool{false, true} {
		for _, v := range [][]byte{nil, {}, sample(9)[:0]} {
			builds(t, []api.Entry{{Key: []byte("k"), Seq: 3, Gone: wasGone, Value: v}}, wantBytes([]api.Entry{{Key: []byte("k"), Seq: 3, Gone: wasGone}}))
		}
	}
}

// blocks are some blocks' entries of all kinds.
func blocks() [][]api.Entry {
	long := sample(64)
	return [][]api.Entry{
		{put("a", 3, "x"), gone("ab", 2)},
		{put("\x00", 0, "")},
		{gone("\xff", 1<<40)},
		{put("k", 5, ""), gone("k", 4), put("k", 0, "\x00")},
		inRow(8),
		{{Key: long[:63], Seq: 200, Value: sample(130)}, {Key: long, Seq: 200, Gone: true}, {Key: long, Seq: 0, Value: sample(3)}},
		{put("tree/1", 9, "x"), put("tree/1", 4, ""), put("tree/2", 7, "yy"), gone("u", 1)},
	}
}

// P8.4: cut off anywhere, at its end or at its beginning, it is none; nor with bytes behind it or ahead of it.
func TestCut(t *testing.T) {
	corrupt(t, "nil", nil)
	corrupt(t, "no bytes", []byte{})
	for _, l := range append(blocks(), longest()) {
		b, _ := Build(l)
		parses(t, b, l)
		for n := range b {
			if len(b) > 1000 && n > 50 && n < len(b)-50 && n%97 > 0 {
				continue
			}
			corrupt(t, fmt.Sprint("the first ", n), b[:n])
			corrupt(t, fmt.Sprint("all but the first ", n+1), b[n+1:])
			if n > 0 && n < len(b)-4 {
				corrupt(t, fmt.Sprint("a right sum of the first ", n), summed(b[:n]))
			}
		}
		for _, more := range [][]byte{{0}, {1}, {0, 0, 0, 0}, {255}, b} {
			corrupt(t, "bytes behind", slices.Concat(b, more))
			corrupt(t, "bytes ahead", slices.Concat(more, b))
			corrupt(t, "bytes behind, with a right sum", summed(slices.Concat(b, more)))
			corrupt(t, "bytes left over, with a right sum", summed(slices.Concat(b[:len(b)-4], more)))
		}
	}
}

// P8.4: one byte turned, whichever way, it is none; so are two bytes that have changed places.
func TestTurned(t *testing.T) {
	for _, l := range blocks() {
		b, _ := Build(l)
		for at := range b {
			for x := 1; x < 256; x++ {
				c := bytes.Clone(b)
				c[at] ^= byte(x)
				corrupt(t, fmt.Sprintf("byte %d turned by %d", at, x), c)
			}
			if at > 0 && b[at] != b[at-1] {
				c := bytes.Clone(b)
				c[at], c[at-1] = c[at-1], c[at]
				corrupt(t, fmt.Sprint("changed places at ", at), c)
			}
		}
	}
	b, _ := Build(longest())
	for at := 0; at < len(b); at += 131 {
		c := bytes.Clone(b)
		c[at] ^= 0x80
		corrupt(t, fmt.Sprint("the longest, turned at ", at), c)
	}
}

// P8.2: the sum stands behind all, the highest byte first, and is Crc's.
func TestSum(t *testing.T) {
	b, _ := Build(inRow(3))
	body, sum := b[:len(b)-4], bytes.Clone(b[len(b)-4:])
	corrupt(t, "no sum", body)
	corrupt(t, "a sum of zeros", slices.Concat(body, make([]byte, 4)))
	corrupt(t, "the sum ahead", slices.Concat(sum, body))
	turned := []byte{^sum[0], ^sum[1], ^sum[2], ^sum[3]}
	corrupt(t, "the sum's bits turned", slices.Concat(body, turned))
	slices.Reverse(sum)
	corrupt(t, "the sum's lowest byte first", slices.Concat(body, sum))
}

// P8.2: bytes with a right sum that Build never answers.
func TestNeverBuilt(t *testing.T) {
	for what, digits := range map[string]string{
		"nothing but a sum":                "",
		"no entries":                       "00",
		"no entries, and one behind":       "00 000161 06 0178",
		"none, said in two bytes":          "80 00",
		"one said, none there":             "01",
		"two said, one there":              "02 000161 06 0178",
		"one said, two there":              "01 000161 06 0178 010162 05 00",
		"two said, three there":            "02 000161 06 0178 010162 05 00 010163 05 00",
		"a count in two bytes":             "8100 000161 06 0178",
		"a share in two bytes":             "01 8000 0161 06 0178",
		"a key's length in two bytes":      "01 00 810061 06 0178",
		"a Seq in two bytes":               "01 000161 8600 0178",
		"a value's length in two bytes":    "01 000161 06 810078",
		"a value's length 0 in two bytes":  "01 000161 06 8000",
		"a share of 1 in two bytes":        "02 000161 06 0178 8100 0162 05 00",
		"a Seq in ten bytes":               "01 000161 8680808080808080 808000 0178",
		"a first share of 1":               "01 010161 06 0178",
		"a first share of 1, no rest":      "01 0100 06 0178",
		"a first share of 2^62-1":          "01 FFFFFFFFFFFFFFFF3F 0161 06 0178",
		"a first share of 2^62":            "01 808080808080808040 0161 06 0178",
		"a share of 2, one ahead":          "02 000161 06 0178 020162 05 00",
		"a share of 2^62-1, one ahead":     "02 000161 06 0178 FFFFFFFFFFFFFFFF3F 0162 05 00",
		"a share of 0, one shared":         "02 000161 06 0178 00026162 05 00",
		"a share of 1, two shared":         "02 00026162 06 0178 01026263 05 00",
		"a share of 0, all shared":         "02 000161 06 0178 000161 04 00",
		"a share of 1, all two shared":     "02 00026162 06 0178 010162 04 00",
		"the same key and Seq":             "02 000161 06 0178 0100 06 00",
		"the same key and Seq, one gone":   "02 000161 06 0178 0100 07 00",
		"one key, its Seq rising":          "02 000161 06 0178 0100 08 00",
		"a key that falls":                 "02 000162 06 0178 000161 06 00",
		"a key that is cut":                "02 00026162 06 0178 0100 06 00",
		"a key of no bytes":                "01 0000 06 0178",
		"a second key of no bytes":         "02 000161 06 0178 0000 06 00",
		"gone, with a value":               "01 000161 07 0178",
		"a Seq of 2^40+1":                  "01 000161 828080808040 0178",
		"a Seq of 2^40+1, gone":            "01 000161 838080808040 00",
		"the greatest number as Seq":       "01 000161 FFFFFFFFFFFFFFFF3F 00",
		"a number above the greatest":      "01 000161 808080808080808040 00",
		"a number that does not end":       "01 000161 8080808080808080808080 00",
		"a key longer than all":            "01 000261",
		"a key of 2^62-1 bytes":            "01 00 FFFFFFFFFFFFFFFF3F 61 06 0178",
		"a value of 2^62-1 bytes":          "01 000161 06 FFFFFFFFFFFFFFFF3F 78",
		"a value that wants a byte":        "01 000161 06 0278",
		"a byte left over":                 "01 000161 06 0178 00",
		"an entry left over":               "01 000161 06 0178 010162 05 00",
		"nine said, one there":             "09 000161 06 0178",
		"2^62-1 said, one there":           "FFFFFFFFFFFFFFFF3F 000161 06 0178",
		"eight said, no bytes of entries":  "08",
		"eight said, nothing but zeros":    "08 00000000 00000000 00000000 00000000 00000000 00000000 00000000 00000000",
		"a whole block within, its sum in": "02 000161 06 0178 010162 05 00 07A58E68",
	} {
		corrupt(t, what, summed(plain(t, digits)))
	}
}

// P8.2: keys and values too long, and too many entries, by bytes that are right but for that.
func TestTooMuch(t *testing.T) {
	lay := func(count int, lines ...[]byte) []byte {
		return summed(slices.Concat([]byte{byte(count)}, slices.Concat(lines...)))
	}
	parses(t, lay(1, line(0, sample(64), 2<<40+1, nil)), []api.Entry{gone(string(sample(64)), 1<<40)})
	parses(t, lay(1, line(0, sample(64), 2<<40, sample(1024))), []api.Entry{{Key: sample(64), Seq: 1 << 40, Value: sample(1024)}})
	corrupt(t, "a key of 65 bytes", lay(1, line(0, sample(65), 6, nil)))
	corrupt(t, "a key of 127 bytes", lay(1, line(0, sample(127), 6, nil)))
	corrupt(t, "a key of 1 shared and 64", lay(2, line(0, sample(1), 6, nil), line(1, sample(64), 6, nil)))
	corrupt(t, "a key of 64 shared and 1", lay(2, line(0, sample(64), 6, nil), line(64, sample(1), 6, nil)))
	corrupt(t, "a value of 1025 bytes", lay(1, line(0, []byte("a"), 6, sample(1025))))
	for _, n := range []int{9, 10, 100} {
		corrupt(t, fmt.Sprint(n, " entries"), wantBytes(inRow(n)))
	}
	b := wantBytes(inRow(9))
	b[0] = 8
	corrupt(t, "nine entries said to be eight", summed(b[:len(b)-4]))
	b = wantBytes(inRow(8))
	b[0] = 9
	corrupt(t, "eight entries said to be nine", summed(b[:len(b)-4]))
	corrupt(t, "many zeros", make([]byte, 1<<22))
	corrupt(t, "many ones", bytes.Repeat([]byte{1}, 1<<22))
	whole, _ := Build(inRow(8))
	corrupt(t, "a block among many bytes", append(bytes.Clone(whole), make([]byte, 1<<22)...))
}

// anyBlock are entries that may be a block, by a source: keys of few letters share much.
func anyBlock(r *rand.Rand) []api.Entry {
	var out []api.Entry
	for range 1 + r.IntN(8) {
		k := make([]byte, 1+r.IntN(4))
		for i := range k {
			k[i] = "ab\x00\xff"[r.IntN(4)]
		}
		if r.IntN(4) == 0 {
			k = append(sample(60), k...)
		}
		e := api.Entry{Key: k, Seq: r.IntN(4)}
		if r.IntN(5) == 0 {
			e.Seq = 1<<40 - r.IntN(3)
		}
		switch r.IntN(5) {
		case 0:
			e.Gone = true
		case 1:
			e.Value = sample(r.IntN(1025))
		default:
			e.Value = sample(r.IntN(3))
		}
		out = append(out, e)
	}
	slices.SortFunc(out, func(a, b api.Entry) int {
		if c := bytes.Compare(a.Key, b.Key); c != 0 {
			return c
		}
		return b.Seq - a.Seq
	})
	return slices.CompactFunc(out, func(a, b api.Entry) bool { return bytes.Equal(a.Key, b.Key) && a.Seq == b.Seq })
}

// P8.4: Parse of Build is the entries, whatever they are; no two blocks have the same bytes.
func TestThereAndBack(t *testing.T) {
	r := rand.New(rand.NewPCG(8, 4))
	seen := map[string][]api.Entry{}
	for range 3000 {
		l := anyBlock(r)
		builds(t, l, wantBytes(l))
		b, _ := Build(l)
		if was, ok := seen[string(b)]; ok && !allAlike(was, l) {
			t.Errorf("the same bytes: %s; %s", short(was), short(l))
		}
		seen[string(b)] = l
	}
}

// P8.1, P8.2: Check, Build and Parse are of one mind on any entries, in order or not, right or wrong.
func TestAnyEntries(t *testing.T) {
	r := rand.New(rand.NewPCG(8, 1))
	rights := 0
	for range 4000 {
		var l []api.Entry
		for _, e := range slices.Concat(anyBlock(r), anyBlock(r)) {
			if r.IntN(20) == 0 {
				e.Seq = []int{-1, 1<<40 + 1, math.MinInt, 1 << 60}[r.IntN(4)]
			}
			if r.IntN(3) == 0 && len(l) < 10 {
				l = append(l, e)
			}
		}
		if wantOK(l) {
			rights++
			builds(t, l, wantBytes(l))
		} else {
			refused(t, "any entries", l)
		}
	}
	if rights < 100 || rights > 3900 {
		t.Errorf("%d of them are right", rights)
	}
}

// P8.3: of entries in order, the version of a key at seq.
func TestFind(t *testing.T) {
	l := []api.Entry{put("a", 9, "x"), gone("a", 5), put("a", 2, ""), put("ab", 7, "y"), put("b", 0, "z")}
	finds(t, l, "a", 10, l[0])
	finds(t, l, "a", math.MaxInt, l[0])
	finds(t, l, "a", 9, l[0])
	finds(t, l, "a", 8, l[1])
	finds(t, l, "a", 5, l[1])
	finds(t, l, "a", 4, l[2])
	finds(t, l, "a", 2, l[2])
	finds(t, l, "a", 1)
	finds(t, l, "a", 0)
	finds(t, l, "a", -1)
	finds(t, l, "a", math.MinInt)
	finds(t, l, "ab", 7, l[3])
	finds(t, l, "ab", 6)
	finds(t, l, "b", 0, l[4])
	finds(t, l, "b", 1<<40, l[4])
	finds(t, l, "b", -1)
	for _, k := range []string{"", "\x00", "A", "aa", "abc", "a\x00", "ba", "c", strings.Repeat("a", 100)} {
		finds(t, l, k, math.MaxInt)
	}
}

// P8.3: of any entries, as they stand, the first one; also of such as may not be.
func TestFindAny(t *testing.T) {
	finds(t, nil, "a", 9)
	finds(t, []api.Entry{}, "a", 9)
	l := []api.Entry{put("b", 1, "first"), put("a", 2, "second"), put("b", 5, "third"), put("a", 2, "fourth"), gone("b", 1), put("a", 9, "sixth")}
	finds(t, l, "b", 9, l[0])
	finds(t, l, "b", 1, l[0])
	finds(t, l, "b", 0)
	finds(t, l, "a", 9, l[1])
	finds(t, l, "a", 2, l[1])
	finds(t, l[2:], "b", 5, l[2])
	finds(t, l[2:], "b", 4, l[4])
	finds(t, l[2:], "a", 9, l[3])
	finds(t, l[4:], "a", 9, l[5])
	finds(t, l[4:], "a", 8)
	odd := []api.Entry{{Seq: 3, Value: []byte("no key")}, {Key: []byte("g"), Seq: 1, Gone: true, Value: []byte("gone, and yet a value")},
		{Key: sample(500), Seq: 1 << 50, Value: sample(5000)}, put("low", -5, "x"), put("least", math.MinInt, "y")}
	finds(t, odd, "", 3, odd[0])
	finds(t, odd, "", 2)
	finds(t, odd, "g", 1, odd[1])
	finds(t, odd, string(sample(500)), 1<<50, odd[2])
	finds(t, odd, string(sample(500)), 1<<50-1)
	finds(t, odd, string(sample(64)), 1<<50)
	finds(t, odd, "low", -5, odd[3])
	finds(t, odd, "low", -6)
	finds(t, odd, "least", math.MinInt, odd[4])
	finds(t, inRow(100), "key 99", 99, inRow(100)[99])
	finds(t, make([]api.Entry, 3), "", 0, api.Entry{})
}

// R1: nil arguments.
func TestNil(t *testing.T) {
	if e := Check(nil); e != api.ErrArg {
		t.Errorf("Check(nil): %v", e)
	}
	if b, e := Build(nil); b != nil || e != api.ErrArg {
		t.Errorf("Build(nil): % X %v", b, e)
	}
	if l, e := Parse(nil); l != nil || e != api.ErrCorrupt {
		t.Errorf("Parse(nil): %s %v", short(l), e)
	}
	if e, ok := Find(nil, nil, 0); ok || !zero(e) {
		t.Errorf("Find(nil, nil, 0): %v %v", e, ok)
	}
	if e, ok := Find(inRow(8), nil, 9); ok || !zero(e) {
		t.Errorf("Find(.., nil, 9): %v %v", e, ok)
	}
	if _, ok := Find([]api.Entry{{Key: []byte{}, Seq: 1}}, nil, 9); !ok {
		t.Error("a nil key is one of no bytes")
	}
}

// roomy are the same bytes with room behind them, all of it full of 170.
func roomy(b []byte) []byte {
	out := bytes.Repeat([]byte{170}, len(b)+16)
	copy(out, b)
	return out[:len(b)]
}

func roomyEntries(l []api.Entry) []api.Entry {
	out := make([]api.Entry, len(l), len(l)+3)
	for i, e := range l {
		e.Key, e.Value = roomy(e.Key), roomy(e.Value)
		out[i] = e
	}
	return out
}

// all tells entries with the room behind them and behind their bytes.
func all(l []api.Entry) string {
	s := fmt.Sprintf("%d of %d", len(l), cap(l))
	for _, e := range l[:cap(l)] {
		s += fmt.Sprintf(" / %x %d %v %x", e.Key[:cap(e.Key)], e.Seq, e.Gone, e.Value[:cap(e.Value)])
	}
	return s
}

// R3: what is handed in is as it was, also the room behind it.
func TestHandedIn(t *testing.T) {
	for _, l := range append(blocks(), []api.Entry{put("b", 1, "x"), put("a", 1, "y")}, inRow(9)) {
		in, k := roomyEntries(l), roomy(l[0].Key)
		was, keyWas := all(in), fmt.Sprintf("%x", k[:cap(k)])
		Check(in)
		Build(in)
		Find(in, k, math.MaxInt)
		Find(in, k, -1)
		if is, keyIs := all(in), fmt.Sprintf("%x", k[:cap(k)]); is != was || keyIs != keyWas {
			t.Errorf("%s %s; was %s %s", is, keyIs, was, keyWas)
		}
		b := roomy(wantBytes(l))
		bytesWere := bytes.Clone(b[:cap(b)])
		Parse(b)
		if !bytes.Equal(b[:cap(b)], bytesWere) {
			t.Errorf("% X; was % X", b[:cap(b)], bytesWere)
		}
	}
}

// spoil turns all bytes of entries, and of the room behind them.
func spoil(l []api.Entry) {
	for _, e := range l {
		for _, b := range [][]byte{e.Key[:cap(e.Key)], e.Value[:cap(e.Value)]} {
			for i := range b {
				b[i] ^= 255
			}
		}
	}
}

// R3: what is answered is new memory: turned, it turns nothing else, and is turned by nothing else.
func TestAnswered(t *testing.T) {
	for _, l := range blocks() {
		in, b := roomyEntries(l), roomy(wantBytes(l))
		built, _ := Build(in)
		out, _ := Parse(b)
		found, _ := Find(in, l[0].Key, math.MaxInt)
		spoil(in)
		for i := range b[:cap(b)] {
			b[:cap(b)][i] ^= 255
		}
		if !bytes.Equal(built, wantBytes(l)) || !allAlike(out, l) || !alike(found, l[0]) {
			t.Errorf("% X; %s; %s", built, short(out), short([]api.Entry{found}))
		}
		for i := range out { // no two of the answer share any
			again, _ := Parse(wantBytes(l))
			spoil(again[i : i+1])
			for j := range again {
				if j != i && !alike(again[j], l[j]) {
					t.Errorf("%d turned by %d: %s", j, i, short(again))
				}
			}
			again, _ = Parse(wantBytes(l))
			k := again[i].Key[:cap(again[i].Key)]
			for x := range k {
				k[x] ^= 255
			}
			if !bytes.Equal(again[i].Value, l[i].Value) {
				t.Errorf("a value turned by its key: %s", short(again))
			}
		}
		in = roomyEntries(l)
		was := all(in)
		found, _ = Find(in, l[0].Key, math.MaxInt)
		spoil([]api.Entry{found})
		if is := all(in); is != was {
			t.Errorf("Find shares what it answers: %s; was %s", is, was)
		}
	}
}

// R3: Build's answers share nothing with each other, nor does growing one turn another.
func TestBuiltTwice(t *testing.T) {
	one, _ := Build(inRow(8))
	two, _ := Build(inRow(8))
	for i := range one[:cap(one)] {
		one[:cap(one)][i] ^= 255
	}
	if !bytes.Equal(two, wantBytes(inRow(8))) {
		t.Errorf("% X", two)
	}
}

// Nothing is kept: calls at once answer as calls one by one.
func TestAtOnce(t *testing.T) {
	in := inRow(8)
	b := wantBytes(in)
	var wg sync.WaitGroup
	for i := range 8 {
		wg.Go(func() {
			for range 50 {
				builds(t, in[:i+1], wantBytes(in[:i+1]))
				parses(t, b, in)
				finds(t, in, fmt.Sprintf("key %02d", i), i, in[i])
				corrupt(t, "cut", b[:len(b)-i-1])
			}
		})
	}
	wg.Wait()
}

// FuzzBlock holds Parse against a reader that asks nothing of Build: of bytes as they are, and of them with a right sum.
func FuzzBlock(f *testing.F) {
	for _, l := range blocks() {
		b := wantBytes(l)
		f.Add(b)
		f.Add(b[:len(b)-4])
	}
	f.Add([]byte{})
	f.Add([]byte{2, 0, 1, 'a', 6, 1, 'x', 0x81, 0, 1, 'b', 5, 0})
	f.Fuzz(func(t *testing.T, b []byte) {
		for _, b := range [][]byte{b, summed(b)} {
			want, ok := wantParse(b)
			if !ok {
				corrupt(t, "these", b)
				continue
			}
			builds(t, want, b)
			for _, e := range want {
				finds(t, want, string(e.Key), e.Seq, e)
			}
		}
	})
}
