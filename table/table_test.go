package table

import (
	"bytes"
	"encoding/binary"
	"encoding/hex"
	"fmt"
	"hash/crc32"
	"math"
	"math/rand/v2"
	"slices"
	"strings"
	"sync"
	"testing"

	"sawyer/api"
	"sawyer/block"
	"sawyer/bloom"
	"sawyer/code"
	"sawyer/skip"
)

// sample is n bytes that aren't alike.
func sample(n int) []byte {
	b := make([]byte, n)
	x := uint32(n)*2654435761 + 1
	for i := range b {
		x = x*1664525 + 1013904223
		b[i] = byte(x >> 24)
	}
	return b
}

// put is an entry that is there, gone one that isn't any more.
func put(key string, seq int, value string) api.Entry {
	return api.Entry{Key: []byte(key), Seq: seq, Value: []byte(value)}
}

func gone(key string, seq int) api.Entry {
	return api.Entry{Key: []byte(key), Seq: seq, Gone: true}
}

func alike(a, b api.Entry) bool {
	return bytes.Equal(a.Key, b.Key) && a.Seq == b.Seq && a.Gone == b.Gone && bytes.Equal(a.Value, b.Value)
}

func allAlike(a, b []api.Entry) bool { return slices.EqualFunc(a, b, alike) }

// zero: is an entry the zero value?
func zero(e api.Entry) bool { return e.Key == nil && e.Seq == 0 && !e.Gone && e.Value == nil }

// short tells entries, long keys and values by their lengths.
func short(l []api.Entry) string {
	var out []string
	for _, e := range l {
		s := fmt.Sprintf("%.12q of %d, %d, %.12q of %d", e.Key, len(e.Key), e.Seq, e.Value, len(e.Value))
		if e.Gone {
			s += ", gone"
		}
		out = append(out, "("+s+")")
	}
	return strings.Join(out, " ")
}

// plain are the bytes that hexadecimal digits say, whatever spaces stand between them.
func plain(t *testing.T, digits string) []byte {
	t.Helper()
	b, err := hex.DecodeString(strings.ReplaceAll(digits, " ", ""))
	if err != nil {
		t.Fatal(err)
	}
	return b
}

// summed are bytes and Go's own sum of them, the highest byte first.
func summed(b []byte) []byte {
	return binary.BigEndian.AppendUint32(bytes.Clone(b), crc32.ChecksumIEEE(b))
}

// body are bytes without the sum at their end.
func body(b []byte) []byte { return b[:len(b)-4] }

// inOrder: may a go ahead of b?
func inOrder(a, b api.Entry) bool {
	c := bytes.Compare(a.Key, b.Key)
	return c < 0 || c == 0 && a.Seq > b.Seq
}

// wantOK: may entries be a table, by the chapter's words?
func wantOK(l []api.Entry) bool {
	for i, e := range l {
		if len(e.Key) < 1 || len(e.Key) > 64 || e.Seq < 0 || e.Seq > 1<<40 || len(e.Value) > 1024 || e.Gone && len(e.Value) > 0 {
			return false
		}
		if i > 0 && !inOrder(l[i-1], e) {
			return false
		}
	}
	return len(l) >= 1 && len(l) <= 64
}

// wantFilter is the filter of entries' keys, as they come, each once.
func wantFilter(l []api.Entry) []byte {
	seen := map[string]bool{}
	var keys [][]byte
	for _, e := range l {
		if !seen[string(e.Key)] {
			keys = append(keys, e.Key)
		}
		seen[string(e.Key)] = true
	}
	return bloom.Build(keys)
}

// eights are entries by eights, the rest at the end.
func eights(l []api.Entry) [][]api.Entry {
	var out [][]api.Entry
	for len(l) > 8 {
		out = append(out, l[:8])
		l = l[8:]
	}
	if len(l) > 0 {
		out = append(out, l)
	}
	return out
}

// raws are the blocks of groups of entries; false, if one of them can be none.
func raws(groups [][]api.Entry) ([][]byte, bool) {
	var out [][]byte
	for _, g := range groups {
		b, e := block.Build(g)
		if e != api.OK {
			return nil, false
		}
		out = append(out, b)
	}
	return out, true
}

// laid is a table's bytes of whatever is handed in, with a right sum.
func laid(begin string, count int, blocks [][]byte, filter []byte) []byte {
	b := code.PutNum([]byte(begin), count)
	for _, x := range blocks {
		b = code.PutText(b, string(x))
	}
	b = code.PutText(b, string(filter))
	sum := code.Crc(b)
	return append(b, byte(sum>>24), byte(sum>>16), byte(sum>>8), byte(sum))
}

// grouped is a table's bytes, but for the entries being in these groups; false, if one of them can be no block.
func grouped(groups ...[]api.Entry) ([]byte, bool) {
	blocks, ok := raws(groups)
	if !ok {
		return nil, false
	}
	return laid("SWT1", len(groups), blocks, wantFilter(slices.Concat(groups...))), true
}

// wantBytes are the bytes that the chapter asks for, of blocks, a filter, numbers, texts and a sum.
func wantBytes(l []api.Entry) []byte {
	b, _ := grouped(eights(l)...)
	return b
}

// A strict reader: each thing that Build never lays is refused where it stands.
type strict struct {
	b   []byte
	bad bool
}

func (s *strict) num() uint64 {
	n, size := binary.Uvarint(s.b)
	if size <= 0 || size > 1 && s.b[size-1] == 0 || n > 1<<62-1 {
		s.b, s.bad = nil, true
		return 0
	}
	s.b = s.b[size:]
	return n
}

func (s *strict) text() []byte {
	n := s.num()
	if n > uint64(len(s.b)) {
		s.b, s.bad = nil, true
		return nil
	}
	out := s.b[:n]
	s.b = s.b[n:]
	return out
}

// wantParse are the entries of bytes, without asking what would be built of them; false, if there are none.
func wantParse(b []byte) ([]api.Entry, bool) {
	if len(b) < 8 || string(b[:4]) != "SWT1" || binary.BigEndian.Uint32(b[len(b)-4:]) != crc32.ChecksumIEEE(body(b)) {
		return nil, false
	}
	s := &strict{b: b[4 : len(b)-4]}
	count := s.num()
	if count > 8 {
		return nil, false
	}
	var out []api.Entry
	for i := range count {
		l, e := block.Parse(s.text())
		if e != api.OK || i+1 < count && len(l) != 8 {
			return nil, false
		}
		out = append(out, l...)
	}
	filter := s.text()
	if s.bad || len(s.b) > 0 || !wantOK(out) || !bytes.Equal(filter, wantFilter(out)) {
		return nil, false
	}
	return out, true
}

// wantGet is the version of a key at seq, by the chapter's words, whatever the order; false, if there is none.
func wantGet(l []api.Entry, key []byte, seq int) (api.Entry, bool) {
	var best api.Entry
	found := false
	for _, e := range l {
		if bytes.Equal(e.Key, key) && e.Seq <= seq && (!found || e.Seq > best.Seq) {
			best, found = e, true
		}
	}
	return best, found
}

// wantScan are the versions at seq of keys from one to another, by the chapter's words.
func wantScan(l []api.Entry, from, to []byte, seq int) []api.Entry {
	byKey := map[string]api.Entry{}
	for _, e := range l {
		if bytes.Compare(e.Key, from) >= 0 && (len(to) == 0 || bytes.Compare(e.Key, to) < 0) {
			if v, ok := wantGet(l, e.Key, seq); ok {
				byKey[string(e.Key)] = v
			}
		}
	}
	var out []api.Entry
	for _, e := range byKey {
		out = append(out, e)
	}
	slices.SortFunc(out, func(a, b api.Entry) int { return bytes.Compare(a.Key, b.Key) })
	return out
}

// has fails, unless a table has these entries.
func has(t *testing.T, x *Table, l []api.Entry) {
	t.Helper()
	if got := x.All(); !allAlike(got, l) {
		t.Errorf("All: %s; not %s", short(got), short(l))
	}
	if n := x.Count(); n != len(l) {
		t.Errorf("Count: %d; not %d", n, len(l))
	}
	if len(l) == 0 {
		return
	}
	if k := x.First(); !bytes.Equal(k, l[0].Key) {
		t.Errorf("First: %q; not %q", k, l[0].Key)
	}
	if k := x.Last(); !bytes.Equal(k, l[len(l)-1].Key) {
		t.Errorf("Last: %q; not %q", k, l[len(l)-1].Key)
	}
}

// builds fails, unless Check takes entries, Build lays them as these bytes, and Parse has them back.
func builds(t *testing.T, l []api.Entry, want []byte) {
	t.Helper()
	if e := Check(l); e != api.OK {
		t.Errorf("Check(%s): %v", short(l), e)
	}
	b, e := Build(l)
	if e != api.OK || !bytes.Equal(b, want) {
		t.Errorf("Build(%s): % X %v; not % X", short(l), b, e, want)
	}
	parses(t, want, l)
}

func parses(t *testing.T, b []byte, want []api.Entry) {
	t.Helper()
	x, e := Parse(b)
	if e != api.OK || x == nil {
		t.Errorf("Parse(% .60X): %v", b, e)
		return
	}
	has(t, x, want)
}

// parsed is the table of entries.
func parsed(t *testing.T, l []api.Entry) *Table {
	t.Helper()
	x, e := Parse(wantBytes(l))
	if e != api.OK || x == nil {
		t.Fatalf("Parse of %s: %v", short(l), e)
	}
	return x
}

// refused fails, unless Check and Build refuse entries, and Parse what they would be.
func refused(t *testing.T, what string, l []api.Entry) {
	t.Helper()
	if e := Check(l); e != api.ErrArg {
		t.Errorf("Check of %s, %s: %v", what, short(l), e)
	}
	if b, e := Build(l); b != nil || e != api.ErrArg {
		t.Errorf("Build of %s, %s: % .60X %v", what, short(l), b, e)
	}
	if b, ok := grouped(eights(l)...); ok {
		corrupt(t, what, b)
	}
}

func corrupt(t *testing.T, what string, b []byte) {
	t.Helper()
	if x, e := Parse(b); x != nil || e != api.ErrCorrupt {
		t.Errorf("Parse of %s, % .60X: %s %v", what, b, short(x.All()), e)
	}
}

// gets fails, unless Get answers that; nothing, where nothing is wanted.
func gets(t *testing.T, x *Table, key string, seq int, want ...api.Entry) {
	t.Helper()
	e, ok := x.Get([]byte(key), seq)
	if ok != (len(want) == 1) || ok && !alike(e, want[0]) || !ok && !zero(e) {
		t.Errorf("Get(%.20q, %d): %s %v; not %s", key, seq, short([]api.Entry{e}), ok, short(want))
	}
}

func scans(t *testing.T, x *Table, from, to []byte, seq int, want ...api.Entry) {
	t.Helper()
	if l := x.Scan(from, to, seq); !allAlike(l, want) {
		t.Errorf("Scan(%q, %q, %d): %s; not %s", from, to, seq, short(l), short(want))
	}
}

// inRow are n entries that may be a table, as long as they are not too many.
func inRow(n int) []api.Entry {
	var out []api.Entry
	for i := range n {
		out = append(out, put(fmt.Sprintf("key %03d", i), i, fmt.Sprint("value ", i)))
	}
	return out
}

// ofOne are n versions of one key, their Seqs falling to 1, each second one gone.
func ofOne(key string, n int) []api.Entry {
	var out []api.Entry
	for seq := n; seq > 0; seq-- {
		if seq%2 == 0 {
			out = append(out, gone(key, seq))
		} else {
			out = append(out, put(key, seq, fmt.Sprint(seq)))
		}
	}
	return out
}

// longest are entries whose table is as long as one can be.
func longest() []api.Entry {
	var out []api.Entry
	for i := range 64 {
		k := sample(64)
		k[0] = byte(i)
		out = append(out, api.Entry{Key: k, Seq: 1 << 40, Value: sample(1024)})
	}
	return out
}

// tables are some tables' entries of all kinds.
func tables() [][]api.Entry {
	long := sample(64)
	return [][]api.Entry{
		{put("a", 3, "x"), gone("ab", 2)},
		{put("\x00", 0, "")},
		{gone("\xff", 1<<40)},
		inRow(8),
		inRow(9),
		inRow(20),
		ofOne("k", 17),
		append(ofOne("j", 6), ofOne("k", 5)...),
		{{Key: long[:63], Seq: 200, Value: sample(130)}, {Key: long, Seq: 200, Gone: true}, {Key: long, Seq: 0, Value: sample(3)}},
	}
}

// wrongEntries are entries that may not be, each for one cause.
func wrongEntries(key string) map[string]api.Entry {
	return map[string]api.Entry{
		"no key":                 put("", 1, "v"),
		"nil key":                {Seq: 1, Value: []byte("v")},
		"a key of 65 bytes":      put(key+strings.Repeat("x", 65-len(key)), 1, "v"),
		"a key of 300 bytes":     put(key+strings.Repeat("x", 300-len(key)), 1, "v"),
		"Seq -1":                 put(key, -1, "v"),
		"the least Seq":          put(key, math.MinInt, "v"),
		"Seq 2^40+1":             put(key, 1<<40+1, "v"),
		"Seq 2^61":               put(key, 1<<61, "v"),
		"the greatest Seq":       put(key, math.MaxInt, "v"),
		"a value of 1025 bytes":  put(key, 1, strings.Repeat("v", 1025)),
		"a value of 9000 bytes":  put(key, 1, strings.Repeat("v", 9000)),
		"gone with a value":      {Key: []byte(key), Seq: 1, Gone: true, Value: []byte{0}},
		"gone with a long value": {Key: []byte(key), Seq: 1, Gone: true, Value: sample(1024)},
		"gone, a key of 65":      gone(key+strings.Repeat("x", 65-len(key)), 1),
		"gone, Seq 2^40+1":       gone(key, 1<<40+1),
		"gone, no key":           gone("", 1),
	}
}

// Example 1: nine entries are two blocks, of eight and of one.
func TestExample(t *testing.T) {
	l := inRow(9)
	b, e := Build(l)
	if e != api.OK || !bytes.HasPrefix(b, []byte("SWT1\x02")) {
		t.Fatalf("% X %v", b, e)
	}
	first, rest, _ := code.TakeText(b[5:], len(b))
	second, _, _ := code.TakeText(rest, len(rest))
	one, e1 := block.Parse([]byte(first))
	two, e2 := block.Parse([]byte(second))
	if e1 != api.OK || e2 != api.OK || !allAlike(one, l[:8]) || !allAlike(two, l[8:]) {
		t.Errorf("%s %v; %s %v", short(one), e1, short(two), e2)
	}
	builds(t, l, wantBytes(l))
}

// P9.1: bytes reckoned by another program.
func TestKnown(t *testing.T) {
	var nine, ten []api.Entry
	for i := range 9 {
		nine = append(nine, gone(string(rune('a'+i)), i))
	}
	for i := range 10 {
		ten = append(ten, put("k", 12-i, "v"))
	}
	for _, x := range []struct {
		l    []api.Entry
		want string
	}{
		{[]api.Entry{put("a", 3, "x"), gone("ab", 2)},
			"53575431 01 10 02 00016106 0178 0101620500 07A58E68 08 0942040812200180 C0028DEA"},
		{[]api.Entry{put("\x00", 0, "")}, "53575431 01 0A 01 0001000000 C2221563 08 0021008400004200 C563642D"},
		{nine, "53575431 02 2D 08 0001610100 0001620300 0001630500 0001640700 0001650900 0001660B00 0001670D00 0001680F00 C6CED47F" +
			"0A 01 0001691100 D6FDC6DC 0C 5C904495E9601F894B67E396 98831C9D"},
		{ten, "53575431 02 2E 08 00016B180176 0100160176 0100140176 0100120176 0100100176 01000E0176 01000C0176 01000A0176 FCEAB661" +
			"10 02 00016B080176 0100060176 97636220 08 0000002084104200 EFF30524"},
	} {
		builds(t, x.l, plain(t, x.want))
	}
}

// P9.1: one to 64 entries are a table, none, 65 and more are not.
func TestCount(t *testing.T) {
	for n := 1; n <= 64; n++ {
		builds(t, inRow(n), wantBytes(inRow(n)))
		builds(t, ofOne("k", n), wantBytes(ofOne("k", n)))
	}
	for _, none := range [][]api.Entry{nil, {}, make([]api.Entry, 0, 8), inRow(8)[:0]} {
		refused(t, "no entries", none)
	}
	for _, n := range []int{65, 66, 72, 73, 128, 1000} {
		refused(t, fmt.Sprint(n, " entries"), inRow(n))
		refused(t, fmt.Sprint(n, " versions of one key"), ofOne("k", n))
	}
	refused(t, "a zero entry", make([]api.Entry, 1))
	refused(t, "65 zero entries", make([]api.Entry, 65))
}

// P9.1: how many entries each block has.
func TestBlocks(t *testing.T) {
	for n := 1; n <= 64; n++ {
		b, _ := Build(inRow(n))
		count, rest, e := code.TakeNum(b[4:])
		if e != api.OK || count != (n+7)/8 {
			t.Fatalf("%d entries: %d blocks, %v", n, count, e)
		}
		for i := range count {
			raw, behind, _ := code.TakeText(rest, len(rest))
			rest = behind
			l, e := block.Parse([]byte(raw))
			if want := inRow(n)[8*i : min(8*i+8, n)]; e != api.OK || !allAlike(l, want) {
				t.Errorf("%d entries, block %d: %s %v; not %s", n, i, short(l), e, short(want))
			}
		}
		filter, sum, e := code.TakeText(rest, len(rest))
		if e != api.OK || filter != string(wantFilter(inRow(n))) || !bytes.Equal(summed(body(b)), b) || len(sum) != 4 {
			t.Errorf("%d entries: filter % X, sum % X, %v", n, filter, sum, e)
		}
	}
}

// P9.1: an entry that may not be is refused at each place, in the first block and in a later one.
func TestWrongEntries(t *testing.T) {
	for what, wrong := range wrongEntries("key 011") {
		refused(t, what, []api.Entry{wrong})
		for at := range 20 {
			l := inRow(20)
			l[at] = wrong
			refused(t, fmt.Sprint(what, " at ", at), l)
		}
		for _, at := range []int{0, 7, 8, 11, 19} { // in order but for that
			l := inRow(20)
			k := bytes.Clone(l[at].Key)
			l[at] = wrong
			if len(wrong.Key) > 0 {
				l[at].Key = append(k, wrong.Key[len(k):]...)
			}
			refused(t, fmt.Sprint(what, " in place ", at), l)
		}
		refused(t, what+" at the end", append(inRow(11), wrong))
		refused(t, what+" behind eight", append(inRow(8), wrong))
	}
}

// P9.1: each goes ahead of the next one, by key, of one key the greater Seq first.
func TestOrder(t *testing.T) {
	most := strings.Repeat("\xff", 64)
	for _, l := range [][]api.Entry{
		{put("a", 1, ""), put("b", 1, "")},
		{put("a", 1, ""), put("b", 2, "")},
		{put("a", 2, ""), put("a", 1, "")},
		{put("a", 1<<40, ""), put("a", 0, "")},
		{gone("a", 2), put("a", 1, "x"), gone("a", 0)},
		{put("a", 1, ""), put("aa", 1, ""), put("ab", 1, "")},
		{put("\x7f", 1, ""), put("\x80", 1, "")},
		{put("\x00", 1, ""), put("\x00\x00", 1, ""), put("\x01", 1, "")},
		{put(most[:63], 1, ""), put(most, 2, ""), put(most, 1, "")},
	} {
		builds(t, l, wantBytes(l))
	}
	for _, l := range [][]api.Entry{
		{put("a", 1, ""), put("a", 1, "")},
		{put("a", 1, "x"), gone("a", 1)},
		{put("a", 1, ""), put("a", 2, "")},
		{gone("a", 1), put("a", 1<<40, "")},
		{put("b", 1, ""), put("a", 1, "")},
		{put("b", 2, ""), put("a", 1, "")},
		{put("ab", 9, ""), put("a", 1, "")},
		{put("a\x00", 1, ""), put("a", 1, "")},
		{put("\x80", 1, ""), put("\x7f", 1, "")},
		{put("a", 1, ""), put("b", 1, ""), put("a", 0, "")},
	} {
		refused(t, "out of order", l)
		refused(t, "out of order in the second block", append(eightOf("A"), l...))
		refused(t, "out of order where one block ends", append(eightOf("A")[:7], l...))
	}
}

// eightOf are eight entries of keys that begin so.
func eightOf(begin string) []api.Entry {
	var out []api.Entry
	for i := range 8 {
		out = append(out, put(fmt.Sprint(begin, i), 7*i, ""))
	}
	return out
}

// P9.1: wherever it is that two do not go so, also where one block ends and the next begins.
func TestOrderAnywhere(t *testing.T) {
	for at := range 63 {
		l := inRow(64)
		l[at], l[at+1] = l[at+1], l[at]
		refused(t, fmt.Sprint("keys that fall at ", at), l)
		l = inRow(64)
		l[at+1] = l[at]
		refused(t, fmt.Sprint("twice at ", at), l)
		l = inRow(64)
		l[at+1] = gone(string(l[at].Key), l[at].Seq)
		refused(t, fmt.Sprint("twice, once gone, at ", at), l)
		l = inRow(64)
		l[at+1] = gone(string(l[at].Key), l[at].Seq+1)
		refused(t, fmt.Sprint("one key, its Seq rising at ", at), l)
		l = ofOne("k", 64)
		l[at], l[at+1] = l[at+1], l[at]
		refused(t, fmt.Sprint("Seqs that rise at ", at), l)
		l = ofOne("k", 64)
		l[at+1] = l[at]
		refused(t, fmt.Sprint("a version twice at ", at), l)
		l = inRow(64)
		l[at] = gone(string(l[at+1].Key), l[at+1].Seq+1)
		builds(t, l, wantBytes(l))
	}
}

// P9.1: the filter is of each key once, however many versions it has.
func TestFilter(t *testing.T) {
	for _, x := range []struct {
		l    []api.Entry
		size int
	}{
		{inRow(1), 8}, {inRow(6), 8}, {inRow(7), 9}, {inRow(8), 10}, {inRow(9), 12}, {inRow(64), 80},
		{ofOne("k", 64), 8}, {slices.Concat(ofOne("j", 20), ofOne("k", 20), ofOne("l", 20)), 8},
		{append(inRow(10), ofOne("l", 50)...), 14},
	} {
		b, _ := Build(x.l)
		want := wantFilter(x.l)
		if len(want) != x.size || !bytes.HasSuffix(body(b), append([]byte{byte(x.size)}, want...)) {
			t.Errorf("%s: % X; not % X at its end", short(x.l), b, want)
		}
	}
}

// P9.1: keys, values and Seqs of all edges, gone or not, in the first block and in a later one.
func TestValues(t *testing.T) {
	for _, ahead := range [][]api.Entry{nil, inRow(8)} {
		for _, seq := range []int{0, 1, 63, 64, 127, 128, 8192, 1<<40 - 1, 1 << 40} {
			for _, size := range []int{0, 1, 127, 128, 1023, 1024} {
				l := append(slices.Clone(ahead), api.Entry{Key: []byte("l"), Seq: seq, Value: sample(size)}, put("m", 1, ""))
				builds(t, l, wantBytes(l))
			}
			l := append(slices.Clone(ahead), gone("l", seq), put("m", 1, "x"), gone("n", seq))
			builds(t, l, wantBytes(l))
		}
		for n := 1; n <= 64; n++ {
			l := append(slices.Clone(ahead), api.Entry{Key: bytes.Repeat([]byte{'x'}, n), Seq: n})
			builds(t, l, wantBytes(l))
		}
	}
	l := longest()
	b, _ := Build(l)
	if size := 1 + 8*(1+65+6+1026) + 4; len(b) != 4+1+8*(2+size)+81+4 {
		t.Errorf("the longest table: %d bytes", len(b))
	}
	builds(t, l, wantBytes(l))
	corrupt(t, "a byte behind the longest table", append(b, 0))
}

// Whether an empty value, or that of a gone entry, is nil or not turns no byte.
func TestNilAndEmpty(t *testing.T) {
	for _, wasGone := range []bool{false, true} {
		for _, v := range [][]byte{nil, {}, sample(9)[:0]} {
			builds(t, []api.Entry{{Key: []byte("k"), Seq: 3, Gone: wasGone, Value: v}}, wantBytes([]api.Entry{{Key: []byte("k"), Seq: 3, Gone: wasGone}}))
		}
	}
}

// P9.2, P9.4: cut off anywhere, at its end or at its beginning, it is none; nor with bytes behind it or ahead of it.
func TestCut(t *testing.T) {
	corrupt(t, "nil", nil)
	corrupt(t, "no bytes", []byte{})
	for _, l := range append(tables(), longest()) {
		b, _ := Build(l)
		parses(t, b, l)
		for n := range b {
			if len(b) > 2000 && n > 20 && n < len(b)-20 && n%1999 > 0 {
				continue
			}
			corrupt(t, fmt.Sprint("the first ", n), b[:n])
			corrupt(t, fmt.Sprint("all but the first ", n+1), b[n+1:])
			if n < len(b)-4 {
				corrupt(t, fmt.Sprint("a right sum of the first ", n), summed(b[:n]))
			}
		}
		for _, more := range [][]byte{{0}, {1}, {0, 0, 0, 0}, {255}, b} {
			corrupt(t, "bytes behind the sum", slices.Concat(b, more))
			corrupt(t, "bytes ahead", slices.Concat(more, b))
			corrupt(t, "bytes behind the sum, with a right sum", summed(slices.Concat(b, more)))
			corrupt(t, "bytes left over, with a right sum", summed(slices.Concat(body(b), more)))
		}
	}
}

// P9.4: one byte turned, whichever way, it is none; so are two bytes that have changed places.
func TestTurned(t *testing.T) {
	for i, l := range tables() {
		b, _ := Build(l)
		for at := range b {
			for x := 1; x < 256; x++ {
				if i > 2 && x&(x-1) > 0 && x != 255 { // of long tables each bit, and all of them
					continue
				}
				c := bytes.Clone(b)
				c[at] ^= byte(x)
				corrupt(t, fmt.Sprintf("byte %d turned by %d", at, x), c)
			}
			if at > 0 && b[at] != b[at-1] {
				c := bytes.Clone(b)
				c[at], c[at-1] = c[at-1], c[at]
				corrupt(t, fmt.Sprint("changed places at ", at), c)
			}
		}
	}
	b, _ := Build(longest())
	for at := 0; at < len(b); at += 4999 {
		c := bytes.Clone(b)
		c[at] ^= 0x80
		corrupt(t, fmt.Sprint("the longest, turned at ", at), c)
	}
}

// P9.2: one byte turned, and a right sum behind it: a table only where the strict reader has one, too.
func TestTurnedAndSummed(t *testing.T) {
	for i, l := range tables() {
		b, _ := Build(l)
		for at := range body(b) {
			for x := 1; x < 256; x++ {
				if i > 2 && x&(x-1) > 0 && x != 255 {
					continue
				}
				c := bytes.Clone(body(b))
				c[at] ^= byte(x)
				c = summed(c)
				if want, ok := wantParse(c); ok {
					parses(t, c, want)
				} else {
					corrupt(t, fmt.Sprintf("byte %d turned by %d, with a right sum", at, x), c)
				}
			}
		}
	}
}

// P9.1, P9.2: the sum stands behind all, the highest byte first, and is Crc's.
func TestSum(t *testing.T) {
	b, _ := Build(inRow(11))
	sum := bytes.Clone(b[len(b)-4:])
	if !bytes.Equal(summed(body(b)), b) {
		t.Errorf("% X behind % X", sum, body(b))
	}
	corrupt(t, "no sum", body(b))
	corrupt(t, "a sum of zeros", slices.Concat(body(b), make([]byte, 4)))
	corrupt(t, "the sum ahead", slices.Concat(sum, body(b)))
	corrupt(t, "the sum without the beginning", slices.Concat(body(b), summed(b[4 : len(b)-4])[len(b)-8:]))
	corrupt(t, "the sum's bits turned", slices.Concat(body(b), []byte{^sum[0], ^sum[1], ^sum[2], ^sum[3]}))
	slices.Reverse(sum)
	corrupt(t, "the sum's lowest byte first", slices.Concat(body(b), sum))
}

// P9.2: bytes with a right sum that begin otherwise, or whose number of blocks is another one.
func TestNeverBegun(t *testing.T) {
	blocks, _ := raws(eights(inRow(20)))
	filter := wantFilter(inRow(20))
	parses(t, laid("SWT1", 3, blocks, filter), inRow(20))
	for _, begin := range []string{"", "S", "SWT", "SWT0", "SWT2", "swt1", "SWT11", "XWT1", "1TWS", "SWT1\x00", "SWT1SWT1", "\x00\x00\x00\x00"} {
		corrupt(t, fmt.Sprintf("another beginning, %q", begin), laid(begin, 3, blocks, filter))
	}
	for _, n := range []int{0, 1, 2, 4, 8, 9, 127, 128, 1 << 40, 1<<62 - 1} {
		corrupt(t, fmt.Sprint(n, " blocks said, three there"), laid("SWT1", n, blocks, filter))
	}
	for what, digits := range map[string]string{
		"nothing but a sum":           "",
		"a beginning and no more":     "53575431",
		"no block, no filter":         "5357543100",
		"no block, an empty filter":   "535754310000",
		"no block, no block in two":   "53575431800000",
		"one block said, none there":  "5357543101",
		"a number that does not end":  "5357543180808080808080808080808000",
		"a number above the greatest": "53575431808080808080808040",
	} {
		corrupt(t, what, summed(plain(t, digits)))
	}
	corrupt(t, "no block, eight noughts", laid("SWT1", 0, nil, make([]byte, 8)))
	corrupt(t, "no block, a filter of keys", laid("SWT1", 0, nil, filter))
}

// P9.2: bytes with a right sum whose blocks are not laid by eights, in order, each a block.
func TestNeverGrouped(t *testing.T) {
	l := inRow(20)
	for what, groups := range map[string][][]api.Entry{
		"seven ahead of others":         {l[:7], l[7:15], l[15:]},
		"seven in the middle":           {l[:8], l[8:15], l[15:]},
		"one ahead of another":          {l[:1], l[1:9]},
		"two of one":                    {l[:1], l[1:2]},
		"four and four":                 {l[:4], l[4:8]},
		"blocks out of order":           {l[8:16], l[:8], l[16:]},
		"the last one ahead":            {l[16:], l[:8], l[8:16]},
		"a block twice":                 {l[:8], l[:8]},
		"its last entry again":          {l[:8], l[7:9]},
		"one key, the same Seq again":   {ofOne("k", 9)[:8], ofOne("k", 9)[7:]},
		"one key, its Seq rising again": {ofOne("k", 16)[8:], ofOne("k", 16)[:8]},
		"one key, its Seq higher by 1":  {ofOne("k", 9)[1:], ofOne("k", 10)[:1]},
		"a key that begins the last":    {eightOf("b"), {put("b", 1, "")}},
		"nine blocks":                   eights(inRow(65)),
		"nine blocks of eight":          eights(inRow(72)),
		"ten blocks":                    eights(inRow(80)),
	} {
		b, ok := grouped(groups...)
		if !ok {
			t.Fatal(what)
		}
		corrupt(t, what, b)
	}
	for n := 1; n < 64; n++ {
		blocks, _ := raws(eights(inRow(n)))
		corrupt(t, fmt.Sprint("one block more said, of ", n), laid("SWT1", len(blocks)+1, blocks, wantFilter(inRow(n))))
		corrupt(t, fmt.Sprint("one block fewer said, of ", n), laid("SWT1", len(blocks)-1, blocks, wantFilter(inRow(n))))
	}
}

// P9.2: bytes with a right sum of which one block is none.
func TestNoBlock(t *testing.T) {
	l := inRow(20)
	filter := wantFilter(l)
	for at := range eights(l) {
		for what, turn := range map[string]func([]byte) []byte{
			"a block without bytes":     func([]byte) []byte { return nil },
			"a block that is cut":       func(b []byte) []byte { return b[:len(b)-1] },
			"a block without its sum":   func(b []byte) []byte { return body(b) },
			"a byte behind a block":     func(b []byte) []byte { return append(bytes.Clone(b), 0) },
			"a block of one byte":       func([]byte) []byte { return []byte{1} },
			"a block of no entries":     func([]byte) []byte { return summed([]byte{0}) },
			"a block that is all zeros": func(b []byte) []byte { return make([]byte, len(b)) },
			"a block twice in one":      func(b []byte) []byte { return slices.Concat(b, b) },
			"a block with a byte turned": func(b []byte) []byte {
				c := bytes.Clone(b)
				c[3] ^= 1
				return c
			},
			"a block whose count is in two bytes": func(b []byte) []byte {
				return summed(slices.Concat([]byte{b[0] | 128, 0}, body(b)[1:]))
			},
			"a block of many bytes": func([]byte) []byte { return sample(20000) },
		} {
			blocks, _ := raws(eights(l))
			blocks[at] = turn(blocks[at])
			corrupt(t, fmt.Sprint(what, " at ", at), laid("SWT1", 3, blocks, filter))
			rest := slices.Concat(append(slices.Clone(eights(l)[:at]), eights(l)[at+1:]...)...)
			corrupt(t, fmt.Sprint(what, " at ", at, ", the filter of the others"), laid("SWT1", 3, blocks, wantFilter(rest)))
		}
		blocks, _ := raws(eights(l))
		corrupt(t, "a block that is not there", laid("SWT1", 3, slices.Delete(blocks, at, at+1), filter))
	}
	one, _ := raws(eights(l[:8]))
	corrupt(t, "a block, and none behind it", laid("SWT1", 2, append(one, nil), wantFilter(l[:8])))
	corrupt(t, "none, and a block behind it", laid("SWT1", 2, [][]byte{nil, one[0]}, wantFilter(l[:8])))
	corrupt(t, "nothing but empty blocks", laid("SWT1", 8, make([][]byte, 8), make([]byte, 8)))
}

// P9.2: bytes with a right sum and another filter than that of all keys, each once.
func TestOtherFilter(t *testing.T) {
	for _, l := range tables() {
		blocks, _ := raws(eights(l))
		right := wantFilter(l)
		lay := func(filter []byte) []byte { return laid("SWT1", len(blocks), blocks, filter) }
		parses(t, lay(right), l)
		corrupt(t, "no filter", lay(nil))
		corrupt(t, "a filter of no keys", lay(make([]byte, len(right))))
		corrupt(t, "a filter of all ones", lay(bytes.Repeat([]byte{255}, len(right))))
		corrupt(t, "a filter that is cut", lay(right[:len(right)-1]))
		corrupt(t, "a longer filter", lay(append(bytes.Clone(right), 0)))
		corrupt(t, "a filter twice", lay(slices.Concat(right, right)))
		for bit := range 8 * len(right) {
			c := bytes.Clone(right)
			c[bit/8] ^= 1 << (bit % 8)
			corrupt(t, fmt.Sprint("a filter whose bit is turned, ", bit), lay(c))
		}
		var keys [][]byte
		for _, e := range l {
			keys = append(keys, e.Key)
		}
		for what, other := range map[string][]byte{
			"a filter of each version's key": bloom.Build(keys),
			"a filter of one key more":       bloom.Build(append(keys, []byte("and another one"))),
			"a filter of one key fewer":      bloom.Build(keys[1:]),
		} {
			if !bytes.Equal(other, right) { // few bits may fall together
				corrupt(t, what, lay(other))
			}
		}
	}
}

// long is a number that is not as short as it can be.
func long(n int) []byte {
	b := code.PutNum(nil, n)
	b[len(b)-1] |= 128
	return append(b, 0)
}

// P9.2: bytes with a right sum in which a number is not as short as it can be, or in which some are left over.
func TestLongNumbers(t *testing.T) {
	l := inRow(9)
	blocks, _ := raws(eights(l))
	filter := wantFilter(l)
	lay := func(nums ...[]byte) []byte {
		return summed(slices.Concat([]byte("SWT1"), nums[0], nums[1], blocks[0], nums[2], blocks[1], nums[3], filter))
	}
	right := func() [][]byte {
		return [][]byte{{2}, code.PutNum(nil, len(blocks[0])), code.PutNum(nil, len(blocks[1])), {byte(len(filter))}}
	}
	parses(t, lay(right()...), l)
	for i, n := range []int{2, len(blocks[0]), len(blocks[1]), len(filter)} {
		nums := right()
		nums[i] = long(n)
		corrupt(t, fmt.Sprint("a long number at ", i), lay(nums...))
		for _, other := range []int{n - 1, n + 1, 0, 1 << 20, 1<<62 - 1} {
			nums[i] = code.PutNum(nil, other)
			corrupt(t, fmt.Sprint("number ", i, " is ", other), lay(nums...))
		}
		nums[i] = plain(t, "808080808080808040")
		corrupt(t, fmt.Sprint("a number above the greatest at ", i), lay(nums...))
	}
	b := body(wantBytes(l))
	for _, more := range [][]byte{{0}, {1}, code.PutText(nil, string(filter)), code.PutText(nil, string(blocks[1]))} {
		corrupt(t, "bytes left over", summed(slices.Concat(b, more)))
	}
}

// P9.2: many bytes that are no table.
func TestManyBytes(t *testing.T) {
	corrupt(t, "many zeros", make([]byte, 1<<22))
	corrupt(t, "many ones", bytes.Repeat([]byte{1}, 1<<22))
	corrupt(t, "a table of many zeros", summed(append([]byte("SWT1\x08"), make([]byte, 1<<22)...)))
	corrupt(t, "a table of one long block", laid("SWT1", 1, [][]byte{make([]byte, 1<<22)}, make([]byte, 8)))
	corrupt(t, "a table of a long filter", laid("SWT1", 0, nil, make([]byte, 1<<22)))
	whole, _ := Build(inRow(64))
	corrupt(t, "a table among many bytes", append(whole, make([]byte, 1<<22)...))
}

// anyTable are entries that may be a table, by a source: keys of few letters, so that many have some versions.
func anyTable(r *rand.Rand) []api.Entry {
	var out []api.Entry
	letters := 1 + r.IntN(4)
	for range 1 + r.IntN(64) {
		k := make([]byte, 1+r.IntN(3))
		for i := range k {
			k[i] = "a\xffb\x00"[r.IntN(letters)]
		}
		if r.IntN(9) == 0 {
			k = append(sample(61), k...)
		}
		e := api.Entry{Key: k, Seq: r.IntN(30)}
		if r.IntN(9) == 0 {
			e.Seq = 1<<40 - r.IntN(3)
		}
		switch r.IntN(9) {
		case 0, 1:
			e.Gone = true
		case 2:
			e.Value = sample(r.IntN(1025))
		default:
			e.Value = sample(r.IntN(3))
		}
		out = append(out, e)
	}
	slices.SortFunc(out, func(a, b api.Entry) int {
		if c := bytes.Compare(a.Key, b.Key); c != 0 {
			return c
		}
		return b.Seq - a.Seq
	})
	return slices.CompactFunc(out, func(a, b api.Entry) bool { return bytes.Equal(a.Key, b.Key) && a.Seq == b.Seq })
}

// P9.4: Parse of Build has the entries, whatever they are; no two tables have the same bytes.
func TestThereAndBack(t *testing.T) {
	r := rand.New(rand.NewPCG(9, 4))
	seen := map[string][]api.Entry{}
	for range 1000 {
		l := anyTable(r)
		builds(t, l, wantBytes(l))
		b, _ := Build(l)
		if was, ok := seen[string(b)]; ok && !allAlike(was, l) {
			t.Errorf("the same bytes: %s; %s", short(was), short(l))
		}
		seen[string(b)] = l
	}
}

// P9.1, P9.2: Check, Build and Parse are of one mind on any entries, in order or not, right or wrong.
func TestAnyEntries(t *testing.T) {
	r := rand.New(rand.NewPCG(9, 1))
	rights := 0
	for range 1000 {
		l := anyTable(r)
		switch at, other := r.IntN(len(l)), r.IntN(len(l)); r.IntN(5) {
		case 0:
			l[at].Seq = []int{-1, 1<<40 + 1, math.MinInt, 0, 1, 1 << 40}[r.IntN(6)]
		case 1:
			l[at], l[other] = l[other], l[at]
		case 2:
			l[at] = l[other]
		case 3:
			l[at].Key = []byte{byte(r.IntN(256))}
		}
		if wantOK(l) {
			rights++
			builds(t, l, wantBytes(l))
		} else {
			refused(t, "any entries", l)
		}
	}
	if rights < 100 || rights > 900 {
		t.Errorf("%d of them are right", rights)
	}
}

// P9.3: the version of a key at seq.
func TestGet(t *testing.T) {
	l := []api.Entry{put("a", 9, "x"), gone("a", 5), put("a", 2, ""), put("ab", 7, "y"), put("b", 0, "z"), gone("c", 1<<40)}
	x := parsed(t, l)
	gets(t, x, "a", 10, l[0])
	gets(t, x, "a", math.MaxInt, l[0])
	gets(t, x, "a", 9, l[0])
	gets(t, x, "a", 8, l[1])
	gets(t, x, "a", 5, l[1])
	gets(t, x, "a", 4, l[2])
	gets(t, x, "a", 2, l[2])
	gets(t, x, "a", 1)
	gets(t, x, "a", 0)
	gets(t, x, "a", -1)
	gets(t, x, "a", math.MinInt)
	gets(t, x, "ab", 7, l[3])
	gets(t, x, "ab", 6)
	gets(t, x, "b", 0, l[4])
	gets(t, x, "b", 1<<40, l[4])
	gets(t, x, "b", -1)
	gets(t, x, "c", 1<<40, l[5])
	gets(t, x, "c", 1<<40-1)
	for _, k := range []string{"", "\x00", "A", "aa", "abc", "a\x00", "ba", "d", strings.Repeat("a", 100)} {
		gets(t, x, k, math.MaxInt)
	}
}

// P9.3: one key's versions lie in more blocks than one, with other keys ahead and behind.
func TestGetOverBlocks(t *testing.T) {
	for _, ahead := range []int{0, 3, 7, 8, 12} {
		for _, n := range []int{2, 9, 16, 40} {
			l := slices.Concat(inRow(ahead), ofOne("m", n), []api.Entry{put("z", 1, "end")})
			x := parsed(t, l)
			gets(t, x, "m", 0)
			for seq := 1; seq <= n; seq++ {
				gets(t, x, "m", seq, l[ahead+n-seq])
			}
			gets(t, x, "m", n+1, l[ahead])
			gets(t, x, "z", 1, l[len(l)-1])
			gets(t, x, "z", 0)
			for i := range ahead {
				gets(t, x, fmt.Sprintf("key %03d", i), 99, l[i])
				gets(t, x, fmt.Sprintf("key %03d", i), i-1)
			}
			scans(t, x, []byte("m"), nil, n, l[ahead], l[len(l)-1])
			scans(t, x, []byte("m"), []byte("n"), 1, l[ahead+n-1])
		}
	}
}

// P9.3: a key that the filter has, though no entry is of it, is not there.
func TestGetFiltered(t *testing.T) {
	l := inRow(64)
	x := parsed(t, l)
	filter := wantFilter(l)
	mistaken := 0
	for i := range 20000 {
		k := fmt.Sprint("other ", i)
		if bloom.Has(filter, []byte(k)) {
			mistaken++
			gets(t, x, k, math.MaxInt)
		}
	}
	if mistaken == 0 {
		t.Error("none of them is mistaken for one")
	}
}

// P9.3: what Scan answers, by bounds and by Seq.
func TestScan(t *testing.T) {
	l := []api.Entry{put("a", 9, "x"), gone("a", 5), put("a", 2, ""), put("ab", 7, "y"), gone("b", 3), put("c", 0, "z"), put("c\x00", 4, "")}
	x := parsed(t, l)
	b := func(s string) []byte { return []byte(s) }
	scans(t, x, nil, nil, 9, l[0], l[3], l[4], l[5], l[6])
	scans(t, x, nil, nil, math.MaxInt, l[0], l[3], l[4], l[5], l[6])
	scans(t, x, b(""), b(""), 8, l[1], l[3], l[4], l[5], l[6])
	scans(t, x, nil, nil, 4, l[2], l[4], l[5], l[6])
	scans(t, x, nil, nil, 2, l[2], l[5])
	scans(t, x, nil, nil, 0, l[5])
	scans(t, x, nil, nil, -1)
	scans(t, x, nil, nil, math.MinInt)
	scans(t, x, b("a"), b("c"), 9, l[0], l[3], l[4])
	scans(t, x, b("a"), b("ab"), 9, l[0])
	scans(t, x, b("aa"), b("b"), 9, l[3])
	scans(t, x, b("a\x00"), nil, 9, l[3], l[4], l[5], l[6])
	scans(t, x, b("b"), b("b\x00"), 9, l[4])
	scans(t, x, b("b"), b("b\x00"), 2)
	scans(t, x, nil, b("a"), 9)
	scans(t, x, nil, b("a\x00"), 9, l[0])
	scans(t, x, b("c"), b("z"), 9, l[5], l[6])
	scans(t, x, b("c\x00"), nil, 9, l[6])
	scans(t, x, b("d"), nil, 9)
	scans(t, x, b("b"), b("b"), 9) // from at to
	scans(t, x, b("c"), b("a"), 9) // from above to
	scans(t, x, b("z"), b("a"), 9) // from above all
	scans(t, x, b("a"), b("\x00"), 9)
	scans(t, x, sample(200), bytes.Repeat([]byte{255}, 200), 9, wantScan(l, sample(200), bytes.Repeat([]byte{255}, 200), 9)...)
}

// P9.3: First, Last, Count and All, of tables of each size.
func TestEnds(t *testing.T) {
	for n := 1; n <= 64; n++ {
		has(t, parsed(t, inRow(n)), inRow(n))
		has(t, parsed(t, ofOne("k", n)), ofOne("k", n))
	}
	x := parsed(t, inRow(9))
	if string(x.First()) != "key 000" || string(x.Last()) != "key 008" || x.Count() != 9 {
		t.Errorf("%q %q %d", x.First(), x.Last(), x.Count())
	}
	x = parsed(t, longest())
	has(t, x, longest())
}

// P9.3: any table answers as a skip list of the same entries, and as the chapter's words.
func TestAgainstSkip(t *testing.T) {
	r := rand.New(rand.NewPCG(9, 3))
	for range 150 {
		l := anyTable(r)
		x, s := parsed(t, l), skip.New()
		keys := [][]byte{nil, {}, []byte("zz")}
		seqs := []int{math.MinInt, -1, 0, 1<<40 - 1, 1 << 40, math.MaxInt}
		for i, e := range l {
			s.Put(e, 1+i%12)
			keys = append(keys, e.Key, append(bytes.Clone(e.Key), 0))
			seqs = append(seqs, e.Seq-1, e.Seq, e.Seq+1)
		}
		has(t, x, s.All())
		for range 60 {
			k, to, seq := keys[r.IntN(len(keys))], keys[r.IntN(len(keys))], seqs[r.IntN(len(seqs))]
			got, ok := x.Get(k, seq)
			want, there := s.Get(k, seq)
			plainly, found := wantGet(l, k, seq)
			if ok != there || ok != found || !alike(got, want) || !alike(got, plainly) {
				t.Errorf("%s: Get(%q, %d): %s %v; not %s", short(l), k, seq, short([]api.Entry{got}), ok, short([]api.Entry{want}))
			}
			scans(t, x, k, to, seq, s.Scan(k, to, seq)...)
			scans(t, x, k, to, seq, wantScan(l, k, to, seq)...)
		}
	}
}

// P9.2, R1: a nil table, and one that Parse has not made, have no entries.
func TestNone(t *testing.T) {
	for what, x := range map[string]*Table{"nil": nil, "zero": {}, "new": new(Table)} {
		if n := x.Count(); n != 0 {
			t.Errorf("%s: Count: %d", what, n)
		}
		if l := x.All(); len(l) != 0 {
			t.Errorf("%s: All: %s", what, short(l))
		}
		if first, last := x.First(), x.Last(); len(first) != 0 || len(last) != 0 {
			t.Errorf("%s: First: %q, Last: %q", what, first, last)
		}
		for _, k := range [][]byte{nil, {}, []byte("a"), sample(64), sample(1000)} {
			for _, seq := range []int{math.MinInt, -1, 0, 1, 1 << 40, math.MaxInt} {
				gets(t, x, string(k), seq)
				if e, ok := x.Get(k, seq); ok || !zero(e) {
					t.Errorf("%s: Get(%q, %d): %v %v", what, k, seq, e, ok)
				}
				scans(t, x, k, nil, seq)
				scans(t, x, nil, k, seq)
				scans(t, x, k, k, seq)
			}
		}
	}
}

// R1, R2: nil arguments, and zero values beside what there is not.
func TestNil(t *testing.T) {
	if e := Check(nil); e != api.ErrArg {
		t.Errorf("Check(nil): %v", e)
	}
	if b, e := Build(nil); b != nil || e != api.ErrArg {
		t.Errorf("Build(nil): % X %v", b, e)
	}
	if x, e := Parse(nil); x != nil || e != api.ErrCorrupt {
		t.Errorf("Parse(nil): %v %v", x, e)
	}
	x := parsed(t, inRow(64))
	for _, seq := range []int{math.MinInt, 0, math.MaxInt} {
		if e, ok := x.Get(nil, seq); ok || !zero(e) {
			t.Errorf("Get(nil, %d): %v %v", seq, e, ok)
		}
	}
	scans(t, x, nil, nil, math.MaxInt, inRow(64)...)
	scans(t, x, nil, nil, 31, inRow(32)...)
}

// roomy are the same bytes with room behind them, all of it full of 170.
func roomy(b []byte) []byte {
	out := bytes.Repeat([]byte{170}, len(b)+16)
	copy(out, b)
	return out[:len(b)]
}

func roomyEntries(l []api.Entry) []api.Entry {
	out := make([]api.Entry, len(l), len(l)+3)
	for i, e := range l {
		e.Key, e.Value = roomy(e.Key), roomy(e.Value)
		out[i] = e
	}
	return out
}

// all tells entries with the room behind them and behind their bytes.
func all(l []api.Entry) string {
	s := fmt.Sprintf("%d of %d", len(l), cap(l))
	for _, e := range l[:cap(l)] {
		s += fmt.Sprintf(" / %x %d %v %x", e.Key[:cap(e.Key)], e.Seq, e.Gone, e.Value[:cap(e.Value)])
	}
	return s
}

// R3: what is handed in is as it was, also the room behind it.
func TestHandedIn(t *testing.T) {
	for _, l := range append(tables(), []api.Entry{put("b", 1, "x"), put("a", 1, "y")}, inRow(65)) {
		in := roomyEntries(l)
		was := all(in)
		Check(in)
		Build(in)
		if is := all(in); is != was {
			t.Errorf("%s; was %s", is, was)
		}
		whole := wantBytes(l)
		for _, b := range [][]byte{roomy(whole), roomy(whole[:len(whole)/2]), roomy(nil)} {
			bytesWere := bytes.Clone(b[:cap(b)])
			x, _ := Parse(b)
			k, to := roomy(l[0].Key), roomy(l[len(l)-1].Key)
			x.Get(k, math.MaxInt)
			x.Get(k, -1)
			x.Scan(k, to, math.MaxInt)
			if !bytes.Equal(k[:cap(k)], roomy(l[0].Key)[:cap(k)]) || !bytes.Equal(to[:cap(to)], roomy(l[len(l)-1].Key)[:cap(to)]) {
				t.Errorf("a key is turned: %x %x", k[:cap(k)], to[:cap(to)])
			}
			if !bytes.Equal(b[:cap(b)], bytesWere) {
				t.Errorf("% X; was % X", b[:cap(b)], bytesWere)
			}
		}
	}
}

// turn turns all bytes, and those of the room behind them.
func turn(b []byte) {
	b = b[:cap(b)]
	for i := range b {
		b[i] ^= 255
	}
}

func spoil(l []api.Entry) {
	for i := range l {
		turn(l[i].Key)
		turn(l[i].Value)
		l[i].Seq, l[i].Gone = -l[i].Seq, !l[i].Gone
	}
}

// R3: what is answered is new memory: turned, it turns nothing of the table, and the table keeps nothing that was handed in.
func TestAnswered(t *testing.T) {
	for _, l := range tables() {
		in, b := roomyEntries(l), roomy(wantBytes(l))
		built, _ := Build(in)
		x, _ := Parse(b)
		spoil(in)
		turn(b)
		if !bytes.Equal(built, wantBytes(l)) {
			t.Errorf("% X", built)
		}
		has(t, x, l)
		spoil(x.All())
		has(t, x, l)
		scanned := x.Scan(nil, nil, math.MaxInt)
		spoil(scanned[:1])
		if want := wantScan(l, nil, nil, math.MaxInt); !allAlike(scanned[1:], want[1:]) {
			t.Errorf("one of Scan's turns another: %s", short(scanned))
		}
		spoil(scanned[1:])
		has(t, x, l)
		k := bytes.Clone(l[0].Key)
		got, _ := x.Get(k, math.MaxInt)
		turn(k)
		if !alike(got, l[0]) {
			t.Errorf("Get shares its key: %s", short([]api.Entry{got}))
		}
		spoil([]api.Entry{got})
		turn(x.First())
		turn(x.Last())
		has(t, x, l)
		gets(t, x, string(l[0].Key), math.MaxInt, l[0])
		for i := range l { // no two of one answer share any
			again := x.All()
			spoil(again[i : i+1])
			if !allAlike(again[:i], l[:i]) || !allAlike(again[i+1:], l[i+1:]) {
				t.Errorf("others turned by %d: %s", i, short(again))
			}
			again = x.All()
			turn(again[i].Key)
			if !bytes.Equal(again[i].Value, l[i].Value) {
				t.Errorf("a value turned by its key: %s", short(again))
			}
		}
	}
}

// R3: Build's answers share nothing with each other, nor do two tables of the same bytes.
func TestTwice(t *testing.T) {
	one, _ := Build(inRow(20))
	two, _ := Build(inRow(20))
	turn(one)
	if !bytes.Equal(two, wantBytes(inRow(20))) {
		t.Errorf("% X", two)
	}
	x, _ := Parse(two)
	y, _ := Parse(two)
	spoil(x.All())
	has(t, y, inRow(20))
	has(t, x, inRow(20))
}

// Ways: a block is parsed when it is first asked for, once: who asks again has the same entries, though its bytes are not kept.
func TestOnce(t *testing.T) {
	raw, _ := block.Build(inRow(8))
	p := &piece{raw: bytes.Clone(raw)}
	if p.entries != nil {
		t.Error("parsed ahead of being asked for")
	}
	lists := make([][]api.Entry, 16)
	var wg sync.WaitGroup
	for i := range lists {
		wg.Go(func() { lists[i] = p.list() })
	}
	wg.Wait()
	for _, l := range lists {
		if !allAlike(l, inRow(8)) || &l[0] != &lists[0][0] {
			t.Errorf("not parsed once: %s", short(l))
		}
	}
	if p.raw != nil {
		t.Error("its bytes are kept")
	}
	none := &piece{raw: []byte("no block")}
	if l := none.list(); len(l) != 0 {
		t.Error(short(l))
	}
	for _, q := range parsed(t, inRow(64)).pieces {
		q.raw = []byte("asked for no more")
		if len(q.list()) != 8 {
			t.Errorf("parsed again: %s", short(q.list()))
		}
	}
}

// Ways: no block is parsed that nobody asks for: none for a key that the filter has not, none behind the one that has the key's version.
func TestFirstAskedFor(t *testing.T) {
	x := read(wantBytes(inRow(64)))
	asked := func() int {
		n := 0
		for _, p := range x.pieces {
			if p.entries != nil {
				n++
			}
		}
		return n
	}
	for i := range 100 {
		if k := fmt.Sprint("other ", i); !bloom.Has(wantFilter(inRow(64)), []byte(k)) {
			gets(t, x, k, math.MaxInt)
		}
	}
	if n := asked(); n != 0 {
		t.Errorf("%d blocks are parsed for keys that the filter has not", n)
	}
	gets(t, x, "key 009", 9, inRow(64)[9])
	if n := asked(); n != 2 {
		t.Errorf("%d blocks are parsed for a key in the second one", n)
	}
	scans(t, x, nil, []byte("key 017"), 99, inRow(17)...)
	if n := asked(); n != 3 {
		t.Errorf("%d blocks are parsed for a scan that ends in the third one", n)
	}
	has(t, x, inRow(64))
	if n := asked(); n != 8 {
		t.Errorf("%d blocks are parsed for all entries", n)
	}
}

// Calls at once, of one table too, answer as calls one by one.
func TestAtOnce(t *testing.T) {
	in := inRow(64)
	b := wantBytes(in)
	x := parsed(t, in)
	var wg sync.WaitGroup
	for i := range 8 {
		wg.Go(func() {
			for n := range 20 {
				builds(t, in[:8*i+1], wantBytes(in[:8*i+1]))
				has(t, x, in)
				gets(t, x, fmt.Sprintf("key %03d", 3*n), 3*n, in[3*n])
				scans(t, x, in[n].Key, in[n+2].Key, 99, in[n], in[n+1])
				corrupt(t, "cut", b[:len(b)-i-1])
			}
		})
	}
	wg.Wait()
}

// FuzzTable holds Parse against a reader that asks nothing of Build: of bytes as they are, and of them with a right sum.
func FuzzTable(f *testing.F) {
	for _, l := range tables() {
		b := wantBytes(l)
		f.Add(b)
		f.Add(body(b))
	}
	f.Add([]byte{})
	f.Add([]byte("SWT1"))
	f.Add([]byte("SWT1\x00\x08\x00\x00\x00\x00\x00\x00\x00\x00"))
	f.Fuzz(func(t *testing.T, b []byte) {
		for _, b := range [][]byte{b, summed(b), summed(append([]byte("SWT1"), b...))} {
			want, ok := wantParse(b)
			if !ok {
				corrupt(t, "these", b)
				continue
			}
			builds(t, want, b)
			x := parsed(t, want)
			for _, e := range want {
				gets(t, x, string(e.Key), e.Seq, e)
			}
			scans(t, x, nil, nil, math.MaxInt, wantScan(want, nil, nil, math.MaxInt)...)
		}
	})
}

// FuzzEntries holds tables of whatever entries bytes tell against the chapter's words.
func FuzzEntries(f *testing.F) {
	f.Add([]byte("a1b2c3"), true)
	f.Add([]byte{0, 0, 255, 255, 1, 64, 2, 128}, false)
	f.Add(bytes.Repeat([]byte("kz"), 70), true)
	f.Fuzz(func(t *testing.T, b []byte, sorted bool) {
		var l []api.Entry
		for i := 0; i+1 < len(b) && i < 200; i += 2 {
			l = append(l, api.Entry{Key: b[i : i+1], Seq: int(b[i+1]) / 2, Gone: b[i+1]%2 == 1})
		}
		if sorted {
			slices.SortFunc(l, func(a, b api.Entry) int {
				if c := bytes.Compare(a.Key, b.Key); c != 0 {
					return c
				}
				return b.Seq - a.Seq
			})
		}
		if !wantOK(l) {
			refused(t, "these", l)
			return
		}
		builds(t, l, wantBytes(l))
		x := parsed(t, l)
		for _, e := range l {
			for _, seq := range []int{e.Seq - 1, e.Seq, e.Seq + 1} {
				got, ok := x.Get(e.Key, seq)
				if want, there := wantGet(l, e.Key, seq); ok != there || !alike(got, want) {
					t.Errorf("%s: Get(%q, %d): %s %v", short(l), e.Key, seq, short([]api.Entry{got}), ok)
				}
				scans(t, x, e.Key, l[0].Key, seq, wantScan(l, e.Key, l[0].Key, seq)...)
				scans(t, x, e.Key, nil, seq, wantScan(l, e.Key, nil, seq)...)
			}
		}
	})
}
