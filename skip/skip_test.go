package skip

import (
	"bytes"
	"cmp"
	"fmt"
	"math"
	"math/bits"
	"slices"
	"strings"
	"testing"

	"sawyer/api"
)

// sample is n bytes that aren't alike.
func sample(n int) []byte {
	b := make([]byte, n)
	x := uint32(n)*2654435761 + 1
	for i := range b {
		x = x*1664525 + 1013904223
		b[i] = byte(x >> 24)
	}
	return b
}

// put is an entry that is there, gone one that isn't any more.
func put(key string, seq int, value string) api.Entry {
	return api.Entry{Key: []byte(key), Seq: seq, Value: []byte(value)}
}

func gone(key string, seq int) api.Entry {
	return api.Entry{Key: []byte(key), Seq: seq, Gone: true}
}

func alike(a, b api.Entry) bool {
	return bytes.Equal(a.Key, b.Key) && a.Seq == b.Seq && a.Gone == b.Gone && bytes.Equal(a.Value, b.Value)
}

func allAlike(a, b []api.Entry) bool { return slices.EqualFunc(a, b, alike) }

// short tells entries, long keys and values by their lengths.
func short(l []api.Entry) string {
	var out []string
	for _, e := range l {
		s := fmt.Sprintf("%.20q %d %d %.20q", e.Key, len(e.Key), e.Seq, e.Value)
		if e.Gone {
			s += " gone"
		}
		out = append(out, s)
	}
	return strings.Join(out, ", ")
}

// told is all that a list answers without being asked for a key.
func told(l *List) string {
	s := fmt.Sprint(l.Count(), " ", l.Size())
	for h := range api.MaxHeight + 2 {
		s += fmt.Sprintf(" / %v", l.Level(h))
	}
	return s
}

// kept fails, if a call turns a list.
func kept(t *testing.T, l *List, what string, call func()) {
	t.Helper()
	was := told(l)
	call()
	if is := told(l); is != was {
		t.Errorf("%s: %s, was %s", what, is, was)
	}
}

func want(t *testing.T, what string, e, want api.Errno) {
	t.Helper()
	if e != want {
		t.Errorf("%s: %v, not %v", what, e, want)
	}
}

// answers fails, unless entries are as they should be.
func answers(t *testing.T, what string, is []api.Entry, should ...api.Entry) {
	t.Helper()
	if !allAlike(is, should) {
		t.Errorf("%s: %s; not %s", what, short(is), short(should))
	}
}

// got fails, unless Get answers that.
func got(t *testing.T, l *List, key string, seq int, should api.Entry) {
	t.Helper()
	if e, ok := l.Get([]byte(key), seq); !ok || !alike(e, should) {
		t.Errorf("Get(%q, %d): %s %v; not %s", key, seq, short([]api.Entry{e}), ok, short([]api.Entry{should}))
	}
}

// none fails, unless Get answers that there is nothing, and no more than that.
func none(t *testing.T, l *List, key []byte, seq int) {
	t.Helper()
	if e, ok := l.Get(key, seq); ok || e.Key != nil || e.Seq != 0 || e.Gone || e.Value != nil {
		t.Errorf("Get(%q, %d): %v %v", key, seq, e, ok)
	}
}

// filled is a list of entries, all of them put by heights that go round.
func filled(t *testing.T, entries ...api.Entry) *List {
	t.Helper()
	l := New()
	for i, e := range entries {
		want(t, "Put", l.Put(e, i%api.MaxHeight+1), api.OK)
	}
	return l
}

// goodKeys are keys of all lengths' edges and of any bytes, wrongKeys such as may not be.
func goodKeys() [][]byte {
	return [][]byte{{0}, {255}, []byte("a"), {0, 0}, {255, 255}, []byte("a\x00b"), sample(63), sample(64), make([]byte, 64), bytes.Repeat([]byte{255}, 64)}
}

func wrongKeys() [][]byte {
	return [][]byte{nil, {}, sample(65), make([]byte, 65), make([]byte, 66), make([]byte, 128), make([]byte, 256+64), make([]byte, 5000)}
}

func goodSeqs() []int { return []int{0, 1, 2, 1 << 20, 1 << 32, 1<<40 - 1, 1 << 40} }

func wrongSeqs() []int {
	return []int{-1, -2, math.MinInt, 1<<40 + 1, 1<<40 + 2, 1 << 41, 1 << 62, math.MaxInt}
}

func wrongHeights() []int {
	return []int{0, -1, -12, math.MinInt, 13, 14, 24, 256 + 1, 1<<32 + 1, math.MaxInt}
}

// goodEntries are such as may be, no two of them of one key and seq.
func goodEntries() []api.Entry {
	var out []api.Entry
	for _, k := range goodKeys() {
		for i, seq := range goodSeqs() {
			e := api.Entry{Key: k, Seq: seq, Value: [][]byte{nil, {}, {0}, sample(100), sample(1023), sample(1024), make([]byte, 1024)}[i%7]}
			out = append(out, e)
		}
		out = append(out, api.Entry{Key: k, Seq: 77, Gone: true}, api.Entry{Key: k, Seq: 78, Gone: true, Value: []byte{}})
	}
	return out
}

// wrongEntries are such as may not be, for one reason and for several.
func wrongEntries() []api.Entry {
	var out []api.Entry
	for _, k := range wrongKeys() {
		out = append(out, api.Entry{Key: k}, api.Entry{Key: k, Seq: 1, Value: []byte("v")}, api.Entry{Key: k, Seq: 1, Gone: true}, api.Entry{Key: k, Seq: -1, Value: make([]byte, 1025)})
	}
	for _, seq := range wrongSeqs() {
		out = append(out, put("k", seq, "v"), put("k", seq, ""), gone("k", seq))
	}
	for _, n := range []int{1025, 1026, 2048, 1 << 16} {
		out = append(out, api.Entry{Key: []byte("k"), Seq: 1, Value: make([]byte, n)}, api.Entry{Key: []byte("k"), Seq: 1, Gone: true, Value: make([]byte, n)})
	}
	for _, n := range []int{1, 2, 100, 1023, 1024} {
		out = append(out, api.Entry{Key: []byte("k"), Seq: 1, Gone: true, Value: make([]byte, n)})
	}
	return out
}

// Example 1.
func TestExample(t *testing.T) {
	a3, a5, b4 := put("a", 3, ""), gone("a", 5), put("b", 4, "")
	l := New()
	want(t, "Put", l.Put(a3, 1), api.OK)
	want(t, "Put", l.Put(a5, 1), api.OK)
	want(t, "Put", l.Put(b4, 1), api.OK)
	answers(t, "All", l.All(), a5, a3, b4)
	got(t, l, "a", 4, a3)
	none(t, l, []byte("a"), 2)
	answers(t, "Scan", l.Scan(nil, nil, 4), a3, b4)
}

// P6.1: a list of New has no entries, and is no other one's.
func TestNew(t *testing.T) {
	a, b := New(), New()
	if a == nil || b == nil || a == b {
		t.Fatal(a, b)
	}
	want(t, "Put", a.Put(put("k", 1, "v"), 3), api.OK)
	for _, l := range []*List{b, New()} {
		isEmpty(t, l)
	}
	answers(t, "All", a.All(), put("k", 1, "v"))
}

// isEmpty fails, unless a list answers as one without entries.
func isEmpty(t *testing.T, l *List) {
	t.Helper()
	if l.Count() != 0 || l.Size() != 0 {
		t.Error(l.Count(), l.Size())
	}
	answers(t, "All", l.All())
	for _, k := range append(append(goodKeys(), wrongKeys()...), []byte("k")) {
		for _, seq := range append(goodSeqs(), wrongSeqs()...) {
			none(t, l, k, seq)
			answers(t, "Scan", l.Scan(k, nil, seq))
			answers(t, "Scan", l.Scan(nil, k, seq))
			answers(t, "Scan", l.Scan(k, k, seq))
		}
	}
	for _, h := range append(wrongHeights(), 1, 2, 11, 12) {
		answers(t, "Level", l.Level(h))
	}
}

// P6.1: a nil list has no entries and takes none.
func TestNilList(t *testing.T) {
	var l *List
	isEmpty(t, l)
	for _, h := range append(wrongHeights(), 1, 6, 12) {
		want(t, "Put", l.Put(put("k", 1, "v"), h), api.ErrArg)
		want(t, "Put", l.Put(api.Entry{}, h), api.ErrArg)
	}
	isEmpty(t, l)
}

// P6.1: a zero list has no entries, and takes some as one of New does.
func TestZeroList(t *testing.T) {
	for _, l := range []*List{{}, new(List)} {
		isEmpty(t, l)
		want(t, "Put", l.Put(api.Entry{}, 1), api.ErrArg)
		want(t, "Put", l.Put(put("k", 1, "v"), 0), api.ErrArg)
		isEmpty(t, l)
		for i, e := range goodEntries() {
			want(t, "Put", l.Put(e, i%12+1), api.OK)
		}
		if told(l) != told(filled(t, goodEntries()...)) {
			t.Error(told(l))
		}
	}
}

// P6.1: which entries may be.
func TestCheck(t *testing.T) {
	for _, e := range goodEntries() {
		want(t, short([]api.Entry{e}), Check(e), api.OK)
	}
	for _, e := range wrongEntries() {
		want(t, short([]api.Entry{e}), Check(e), api.ErrArg)
	}
	want(t, "nothing", Check(api.Entry{}), api.ErrArg)
	for n := range 70 {
		should := api.OK
		if n < 1 || n > 64 {
			should = api.ErrArg
		}
		want(t, "a key", Check(api.Entry{Key: make([]byte, n)}), should)
		want(t, "a key", Check(api.Entry{Key: sample(n), Seq: 1, Gone: true}), should)
	}
	for n := range 1100 {
		should := api.OK
		if n > 1024 {
			should = api.ErrArg
		}
		want(t, "a value", Check(api.Entry{Key: []byte("k"), Value: make([]byte, n)}), should)
	}
}

// P6.1: each entry that may be is in the list, at each height.
func TestPut(t *testing.T) {
	for _, e := range goodEntries() {
		for h := 1; h <= 12; h++ {
			l := New()
			want(t, "Put", l.Put(e, h), api.OK)
			answers(t, "All", l.All(), e)
			got(t, l, string(e.Key), e.Seq, e)
			for at := -2; at <= 14; at++ {
				if at <= h {
					answers(t, "Level", l.Level(at), e)
				} else {
					answers(t, "Level", l.Level(at))
				}
			}
		}
	}
}

// P6.1: what may not be is refused, and turns nothing.
func TestPutRefused(t *testing.T) {
	full := filled(t, put("a", 3, "x"), gone("k", 5), put("k", 2, "y"), put("z", 9, ""))
	for _, l := range []*List{New(), full} {
		kept(t, l, "Put", func() {
			for _, e := range wrongEntries() {
				for _, h := range append(wrongHeights(), 1, 7, 12) {
					want(t, short([]api.Entry{e}), l.Put(e, h), api.ErrArg)
				}
			}
			for _, h := range wrongHeights() {
				want(t, "a height", l.Put(put("k", 4, "v"), h), api.ErrArg)
				want(t, "a height", l.Put(gone("b", 1), h), api.ErrArg)
			}
		})
	}
	for h := 1; h <= 12; h++ {
		want(t, "what was refused for its height", full.Put(put("k", 100+h, "v"), h), api.OK)
	}
}

// P6.1: the same Key and Seq twice, whatever else is otherwise, and whatever stands around it.
func TestPutTwice(t *testing.T) {
	around := []api.Entry{put("j", 4, ""), put("k", 3, "x"), put("k", 4, "y"), put("k", 5, "z"), put("ka", 4, ""), put("l", 4, "")}
	for h := 1; h <= 12; h++ {
		for again := 1; again <= 12; again++ {
			l := New()
			for _, e := range around {
				want(t, "Put", l.Put(e, h), api.OK)
			}
			kept(t, l, "twice", func() {
				for _, e := range around {
					want(t, "alike", l.Put(e, again), api.ErrArg)
					want(t, "another value", l.Put(put(string(e.Key), e.Seq, "other"), again), api.ErrArg)
					want(t, "gone", l.Put(gone(string(e.Key), e.Seq), again), api.ErrArg)
				}
			})
		}
	}
	l := filled(t, gone("k", 0))
	kept(t, l, "twice", func() { want(t, "no more gone", l.Put(put("k", 0, "v"), 1), api.ErrArg) })
	want(t, "another seq", l.Put(put("k", 1, "v"), 1), api.OK)
	want(t, "another key", l.Put(put("k\x00", 0, "v"), 1), api.OK)
	want(t, "another key", l.Put(put("j", 0, "v"), 1), api.OK)
}

// P6.2: the version at a seq below, at and above each one's.
func TestGet(t *testing.T) {
	e3, e5, e9 := put("k", 3, "three"), gone("k", 5), put("k", 9, "nine")
	for _, entries := range [][]api.Entry{{e3, e5, e9}, {e9, e5, e3}, {e5, e9, e3}} {
		l := filled(t, append(entries, put("j", 1, "j"), put("l", 1, "l"), put("kk", 1, "kk"))...)
		for seq, should := range []*api.Entry{nil, nil, nil, &e3, &e3, &e5, &e5, &e5, &e5, &e9, &e9, &e9} {
			if should == nil {
				none(t, l, []byte("k"), seq)
			} else {
				got(t, l, "k", seq, *should)
			}
		}
		for _, seq := range []int{1 << 40, 1<<40 + 1, math.MaxInt} {
			got(t, l, "k", seq, e9)
		}
		for _, seq := range []int{-1, math.MinInt} {
			none(t, l, []byte("k"), seq)
		}
		for _, k := range []string{"", "\x00", "i", "k\x00", "ka", "kl", "m", "\xff", strings.Repeat("k", 64), strings.Repeat("k", 65)} {
			none(t, l, []byte(k), 100)
		}
		none(t, l, nil, 100)
	}
}

// P6.2: seqs at both ends.
func TestGetEnds(t *testing.T) {
	first, last := put("k", 0, "first"), put("k", 1<<40, "last")
	l := filled(t, first, last)
	none(t, l, []byte("k"), -1)
	got(t, l, "k", 0, first)
	got(t, l, "k", 1<<40-1, first)
	got(t, l, "k", 1<<40, last)
	got(t, l, "k", math.MaxInt, last)
}

// P6.2, P6.3: all orders in which versions may be put come to one list.
func TestAllOrders(t *testing.T) {
	sorted := []api.Entry{put("a", 7, "1"), gone("a", 5), put("a", 0, ""), put("ab", 6, "4"), put("b", 1<<40, "5"), gone("b", 2)}
	var place func(rest, so []api.Entry)
	orders := 0
	place = func(rest, so []api.Entry) {
		if len(rest) == 0 {
			orders++
			l := filled(t, so...)
			answers(t, "All", l.All(), sorted...)
			answers(t, "Scan", l.Scan(nil, nil, 5), sorted[1], sorted[5])
			return
		}
		for i := range rest {
			place(slices.Delete(slices.Clone(rest), i, i+1), append(slices.Clone(so), rest[i]))
		}
	}
	place(sorted, nil)
	if orders != 720 {
		t.Error(orders)
	}
}

// P6.2: keys of which one begins with another, keys of any bytes.
func TestAllKeys(t *testing.T) {
	keys := []string{"\x00", "\x00\x00", "\x00\xff", "\x01", "a", "a\x00", "a\x00\x00", "aa", "ab", "a\xff", "b", "\x7f", "\x80", "\xc3\xa9", "\xff", "\xff\x00", "\xff\xff", strings.Repeat("\xff", 64)}
	var entries []api.Entry
	for _, k := range keys {
		entries = append(entries, put(k, 2, k), put(k, 1, "old"))
	}
	turned := slices.Clone(entries)
	slices.Reverse(turned)
	for _, so := range [][]api.Entry{entries, turned} {
		l := filled(t, so...)
		answers(t, "All", l.All(), entries...)
		for i, from := range keys {
			got(t, l, from, 2, entries[2*i])
			got(t, l, from, 1, entries[2*i+1])
			for j, to := range keys {
				var should []api.Entry
				for k := i; k < j; k++ {
					should = append(should, entries[2*k])
				}
				answers(t, fmt.Sprintf("Scan(%q, %q)", from, to), l.Scan([]byte(from), []byte(to), 9), should...)
			}
		}
	}
}

// P6.2: the ends of a Scan.
func TestScan(t *testing.T) {
	a, b, c, d := put("a", 1, "a"), put("b", 2, "b"), gone("c", 3), put("d", 4, "d")
	l := filled(t, d, a, c, b)
	all := []api.Entry{a, b, c, d}
	long := strings.Repeat("b", 100)
	for _, x := range []struct {
		from, to string
		should   []api.Entry
	}{
		{"", "", all}, {"a", "", all}, {"\x00", "", all}, {"", "e", all}, {"", "d\x00", all}, {"", "\xff", all},
		{"a\x00", "", all[1:]}, {"b", "", all[1:]}, {"d", "", all[3:]}, {"d\x00", "", nil}, {"e", "", nil},
		{"", "d", all[:3]}, {"", "b", all[:1]}, {"", "a\x00", all[:1]}, {"", "a", nil}, {"", "\x00", nil},
		{"b", "d", all[1:3]}, {"b", "c", all[1:2]}, {"aa", "cc", all[1:3]}, {"a", "a\x00", all[:1]},
		{"b", "b", nil}, {"c", "b", nil}, {"d", "a", nil}, {"e", "\x00", nil}, {"bb", "bb", nil}, {"a\x00", "b", nil},
		{long, "", all[2:]}, {"", long, all[:2]}, {long, long, nil},
	} {
		what := fmt.Sprintf("Scan(%.9q, %.9q)", x.from, x.to)
		answers(t, what, l.Scan([]byte(x.from), []byte(x.to), 4), x.should...)
		answers(t, what, l.Scan([]byte(x.from), []byte(x.to), math.MaxInt), x.should...)
		answers(t, what, l.Scan([]byte(x.from), []byte(x.to), -1))
	}
	answers(t, "nil", l.Scan(nil, nil, 4), all...)
	answers(t, "a to of no bytes", l.Scan([]byte("b"), []byte{}, 4), all[1:]...)
}

// P6.2: of each key the version at a seq, and no other one.
func TestScanSeq(t *testing.T) {
	a1, a4, b2, b3, c6, c9 := put("a", 1, "a1"), gone("a", 4), gone("b", 2), put("b", 3, "b3"), put("c", 6, "c6"), put("c", 9, "c9")
	l := filled(t, a1, c9, b3, a4, c6, b2)
	for seq, should := range [][]api.Entry{{}, {a1}, {a1, b2}, {a1, b3}, {a4, b3}, {a4, b3}, {a4, b3, c6}, {a4, b3, c6}, {a4, b3, c6}, {a4, b3, c9}, {a4, b3, c9}} {
		answers(t, fmt.Sprint("Scan at ", seq), l.Scan(nil, nil, seq), should...)
	}
	for _, seq := range []int{1 << 40, 1<<40 + 1, math.MaxInt} {
		answers(t, "Scan far above", l.Scan(nil, nil, seq), a4, b3, c9)
	}
	for _, seq := range []int{-1, math.MinInt} {
		answers(t, "Scan below", l.Scan(nil, nil, seq))
	}
	answers(t, "Scan from b", l.Scan([]byte("b"), []byte("c"), 2), b2)
	answers(t, "Scan of one key without a version", l.Scan([]byte("c"), nil, 5))
}

// P6.2: which entries are so high.
func TestLevel(t *testing.T) {
	l := New()
	var entries []api.Entry
	for h := 1; h <= 12; h++ {
		e := put(string(rune('a'+(h*5)%12)), h, "v")
		entries = append(entries, e)
		want(t, "Put", l.Put(e, h), api.OK)
	}
	byKey := func(l []api.Entry) []api.Entry {
		return slices.SortedFunc(slices.Values(l), func(a, b api.Entry) int { return bytes.Compare(a.Key, b.Key) })
	}
	for h := 1; h <= 12; h++ {
		answers(t, fmt.Sprint("Level ", h), l.Level(h), byKey(entries[h-1:])...)
	}
	for _, h := range []int{0, -1, -5, -12, -13, math.MinInt} {
		answers(t, fmt.Sprint("Level ", h), l.Level(h), byKey(entries)...)
	}
	for _, h := range []int{13, 14, 256 + 1, 1<<32 + 1, math.MaxInt} {
		answers(t, fmt.Sprint("Level ", h), l.Level(h))
	}
}

// P6.2: versions of one key, the greater Seq first at each level.
func TestLevelVersions(t *testing.T) {
	l := New()
	for _, seq := range []int{4, 1, 6, 3, 5, 2} {
		want(t, "Put", l.Put(put("k", seq, ""), seq%3*4+1), api.OK)
	}
	seqs := func(l []api.Entry) (out []int) {
		for _, e := range l {
			out = append(out, e.Seq)
		}
		return out
	}
	for h, should := range map[int][]int{1: {6, 5, 4, 3, 2, 1}, 2: {5, 4, 2, 1}, 5: {5, 4, 2, 1}, 6: {5, 2}, 9: {5, 2}, 10: nil} {
		if is := seqs(l.Level(h)); !slices.Equal(is, should) {
			t.Errorf("Level(%d): %v", h, is)
		}
	}
}

// P6.2: how many there are, and of how many bytes.
func TestCountSize(t *testing.T) {
	l := New()
	count, size := 0, 0
	for i, e := range goodEntries() {
		want(t, "Put", l.Put(e, i%12+1), api.OK)
		count++
		size += 8 + len(e.Key) + len(e.Value)
		if l.Count() != count || l.Size() != size {
			t.Fatalf("behind %d: %d %d, not %d", count, l.Count(), l.Size(), size)
		}
		l.Put(e, 1)
		l.Put(e, 13)
		l.Put(api.Entry{}, 1)
	}
	if l.Count() != count || l.Size() != size {
		t.Error(l.Count(), l.Size())
	}
	for _, x := range []struct {
		e    api.Entry
		size int
	}{
		{put("k", 1, ""), 9}, {gone("k", 1<<40), 9}, {put("k", 0, "v"), 10}, {put("key", 5, "value"), 16},
		{put(strings.Repeat("k", 64), 1, strings.Repeat("v", 1024)), 1096},
	} {
		if l := filled(t, x.e); l.Size() != x.size || l.Count() != 1 {
			t.Error(x.size, l.Size(), l.Count())
		}
	}
}

// likeList is what chapter 6 says of a list, of entries as they were put.
type likeList struct {
	entries []api.Entry
	heights []int
}

func (m *likeList) put(e api.Entry, height int) api.Errno {
	if Check(e) != api.OK || height < 1 || height > 12 {
		return api.ErrArg
	}
	for _, x := range m.entries {
		if string(x.Key) == string(e.Key) && x.Seq == e.Seq {
			return api.ErrArg
		}
	}
	m.entries, m.heights = append(m.entries, e), append(m.heights, height)
	return api.OK
}

func (m *likeList) get(key string, seq int) (api.Entry, bool) {
	best, ok := api.Entry{}, false
	for _, e := range m.entries {
		if string(e.Key) == key && e.Seq <= seq && (!ok || e.Seq > best.Seq) {
			best, ok = e, true
		}
	}
	return best, ok
}

func (m *likeList) level(height int) []api.Entry {
	var out []api.Entry
	for i, e := range m.entries {
		if m.heights[i] >= height {
			out = append(out, e)
		}
	}
	slices.SortFunc(out, func(a, b api.Entry) int {
		return cmp.Or(strings.Compare(string(a.Key), string(b.Key)), cmp.Compare(b.Seq, a.Seq))
	})
	return out
}

func (m *likeList) keys() []string {
	var out []string
	for _, e := range m.entries {
		out = append(out, string(e.Key))
	}
	slices.Sort(out)
	return slices.Compact(out)
}

func (m *likeList) scan(from, to string, seq int) []api.Entry {
	var out []api.Entry
	for _, k := range m.keys() {
		if e, ok := m.get(k, seq); ok && k >= from && (to == "" || k < to) {
			out = append(out, e)
		}
	}
	return out
}

// holds holds a list against the model, asked for these keys and seqs.
func (m *likeList) holds(t *testing.T, l *List, keys []string, seqs []int) {
	t.Helper()
	answers(t, "All", l.All(), m.level(1)...)
	for h := -1; h <= 14; h++ {
		answers(t, fmt.Sprint("Level ", h), l.Level(h), m.level(h)...)
	}
	size := 0
	for _, e := range m.entries {
		size += len(e.Key) + len(e.Value) + 8
	}
	if l.Count() != len(m.entries) || l.Size() != size {
		t.Errorf("%d entries of %d: %d, %d", len(m.entries), size, l.Count(), l.Size())
	}
	for _, seq := range seqs {
		for _, k := range keys {
			if e, ok := m.get(k, seq); ok {
				got(t, l, k, seq, e)
			} else {
				none(t, l, []byte(k), seq)
			}
			for _, to := range keys {
				answers(t, fmt.Sprintf("Scan(%q, %q, %d)", k, to, seq), l.Scan([]byte(k), []byte(to), seq), m.scan(k, to, seq)...)
			}
		}
	}
}

// walk puts what bytes say: few keys and seqs, so that many are alike, some of them wrong.
func walk(t *testing.T, steps []byte) {
	keys := []string{"", "\x00", "a", "a\x00", "ab", "b", "\xff", "\xff\xff"}
	seqs := []int{-1, 0, 1, 2, 3, 4, 5, 6, 1 << 40, 1<<40 + 1}
	l, like := New(), &likeList{}
	for n := 0; len(steps) >= 3; n++ {
		e := api.Entry{Key: []byte(keys[steps[0]%8]), Seq: seqs[int(steps[1])%len(seqs)], Gone: steps[1] >= 200}
		if steps[1]%7 > 1 {
			e.Value = sample(int(steps[1]) % 7)
		}
		height := int(steps[2] % 14)
		want(t, "Put", l.Put(e, height), like.put(e, height))
		steps = steps[3:]
		if n%16 == 0 {
			like.holds(t, l, keys, seqs)
		}
	}
	like.holds(t, l, keys, seqs)
}

// P6.1, P6.2: long walks against the model.
func TestWalks(t *testing.T) {
	for n := range 60 {
		walk(t, sample(3*n+n*n/4))
	}
}

// P6.3: heights turn no answer but Level's.
func TestHeightsTurnNothing(t *testing.T) {
	entries := []api.Entry{put("b", 4, "x"), put("a", 3, "y"), gone("a", 7), put("ab", 1, ""), put("c", 1<<40, "z"), gone("b", 0), put("a", 5, "w"), put("\xff", 2, "u")}
	keys, seqs := []string{"", "a", "ab", "b", "c", "d", "\xff", "\xff\xff"}, []int{-1, 0, 1, 2, 3, 4, 5, 6, 7, 8, 1 << 40, math.MaxInt}
	heightOf := []func(i int) int{
		func(i int) int { return 1 }, func(i int) int { return 12 }, func(i int) int { return i + 1 }, func(i int) int { return 12 - i },
		func(i int) int { return 1 + i%2*11 }, func(i int) int { return 1 + i*7%12 }, func(i int) int { return 1 + i/4*5 },
	}
	for _, f := range heightOf {
		l, like := New(), &likeList{}
		for i, e := range entries {
			want(t, "Put", l.Put(e, f(i)), api.OK)
			want(t, "Put", like.put(e, f(i)), api.OK)
		}
		like.holds(t, l, keys, seqs)
		answers(t, "All", l.All(), filled(t, entries...).All()...)
	}
}

// P6.3: a version is found from its Seq on, up to the next one's.
func TestFoundFromOn(t *testing.T) {
	for gap := 1; gap <= 4; gap++ {
		var entries []api.Entry
		for i := range 20 {
			seq := 3 + (i*7%20)*gap
			entries = append(entries, put("k", seq, fmt.Sprint(seq)), put("l", seq+1, "other"))
		}
		l := filled(t, entries...)
		for seq := range 3 + 21*gap {
			if seq < 3 {
				none(t, l, []byte("k"), seq)
				continue
			}
			found := 3 + min((seq-3)/gap, 19)*gap
			got(t, l, "k", seq, put("k", found, fmt.Sprint(found)))
			answers(t, "Scan", l.Scan([]byte("k"), []byte("l"), seq), put("k", found, fmt.Sprint(found)))
		}
	}
}

// A place is sought by steps over many entries at once, where heights are mixed.
func TestSeekSkips(t *testing.T) {
	l := New()
	const many = 1 << 12
	for i := range many {
		k := []byte{byte(i * 5 >> 8 & 15), byte(i * 5)}
		want(t, "Put", l.Put(api.Entry{Key: k, Seq: i}, min(bits.TrailingZeros(uint(i*5%many))+1, 12)), api.OK)
	}
	if l.Count() != many {
		t.Fatal(l.Count())
	}
	for i := range many {
		k := []byte{byte(i >> 8), byte(i)}
		asked, ahead := 0, aheadOf(k, many)
		n := l.first(func(e api.Entry) bool {
			asked++
			return ahead(e)
		})
		if n == nil || !bytes.Equal(n.entry.Key, k) || asked > 40 {
			t.Fatalf("%v: %v, asked %d times", k, n, asked)
		}
	}
}

// R3: what is handed in is left as it is, with the room behind it.
func TestLeavesAsItWas(t *testing.T) {
	roomy := func(s string) []byte {
		return append(make([]byte, 0, len(s)+40), s...)
	}
	whole := func(b []byte) string { return string(b[:cap(b)]) }
	k, v, from, to := roomy("key"), roomy("value"), roomy("a"), roomy("z")
	was := whole(k) + whole(v) + whole(from) + whole(to)
	l := filled(t, put("k", 1, "v"), put("l", 1, "v"))
	e := api.Entry{Key: k, Seq: 7, Value: v}
	Check(e)
	want(t, "Put", l.Put(e, 3), api.OK)
	want(t, "Put", l.Put(e, 3), api.ErrArg)
	l.Get(k, 9)
	l.Scan(from, to, 9)
	l.Scan(k, v, 9)
	if is := whole(k) + whole(v) + whole(from) + whole(to); is != was {
		t.Errorf("%q, was %q", is, was)
	}
}

// turn turns all bytes of entries, and of the room behind them.
func turn(l ...api.Entry) {
	for i := range l {
		for _, b := range [][]byte{l[i].Key, l[i].Value} {
			b = b[:cap(b)]
			for j := range b {
				b[j] ^= 0xFF
			}
		}
	}
}

// R3: bytes handed in that are changed afterwards turn no answer.
func TestGivenIsApart(t *testing.T) {
	l := New()
	for i, s := range []string{"b", "a", "c", "a"} {
		e := put(s, i, "value")
		want(t, "Put", l.Put(e, 1+i*3), api.OK)
		turn(e)
	}
	answers(t, "All", l.All(), put("a", 3, "value"), put("a", 1, "value"), put("b", 0, "value"), put("c", 2, "value"))
	got(t, l, "b", 9, put("b", 0, "value"))
	from, to := []byte("a"), []byte("c")
	s := l.Scan(from, to, 9)
	from[0], to[0] = 'x', 'x'
	answers(t, "Scan", s, put("a", 3, "value"), put("b", 0, "value"))
	k := []byte("b")
	e, _ := l.Get(k, 9)
	k[0] = 'x'
	answers(t, "Get", []api.Entry{e}, put("b", 0, "value"))
}

// R3: bytes and lists answered that are changed afterwards turn no other answer.
func TestAnswersAreApart(t *testing.T) {
	l := filled(t, put("b", 4, "x"), put("a", 3, "y"), gone("a", 7), put("ab", 1, "zz"), put("c", 1<<40, ""))
	ask := func() [][]api.Entry {
		b, _ := l.Get([]byte("b"), 9)
		a, _ := l.Get([]byte("a"), 3)
		return [][]api.Entry{{b}, {a}, l.All(), l.Scan(nil, nil, 9), l.Scan([]byte("a"), []byte("c"), 3), l.Level(1), l.Level(2), l.Level(-1)}
	}
	was := fmt.Sprint(ask())
	for i := range ask() {
		answered := ask()
		turn(answered[i]...)
		rest := slices.Delete(slices.Clone(answered), i, i+1)
		if fmt.Sprint(rest) != fmt.Sprint(slices.Delete(ask(), i, i+1)) {
			t.Errorf("answer %d is shared with another one", i)
		}
		clear(answered[i])
		if is := fmt.Sprint(ask()); is != was {
			t.Errorf("answer %d is kept: %s", i, is)
		}
	}
	all := l.All()
	was = short(all[1:])
	turn(all[0])
	if short(all[1:]) != was {
		t.Error("entries of one answer share bytes")
	}
	got(t, l, "a", 9, gone("a", 7))
}

// What asks turns nothing, whatever it is asked for.
func TestAsksOnly(t *testing.T) {
	l := filled(t, put("b", 4, "x"), put("a", 3, "y"), gone("a", 7))
	kept(t, l, "asking", func() {
		for _, k := range append(goodKeys(), wrongKeys()...) {
			for _, seq := range append(goodSeqs(), wrongSeqs()...) {
				l.Get(k, seq)
				l.Scan(k, nil, seq)
				l.Scan(nil, k, seq)
				l.Scan(k, k, seq)
			}
		}
		for _, h := range wrongHeights() {
			l.Level(h)
		}
		l.All()
		Check(api.Entry{})
	})
}

// A list is its own: what is put into one is in no other.
func TestListsApart(t *testing.T) {
	a, b := New(), New()
	for i := range 20 {
		want(t, "Put", a.Put(put(fmt.Sprint(i), i, "a"), i%12+1), api.OK)
		want(t, "Put", b.Put(put(fmt.Sprint(i), i, "b"), 12-i%12), api.OK)
	}
	for i := range 20 {
		got(t, a, fmt.Sprint(i), i, put(fmt.Sprint(i), i, "a"))
		got(t, b, fmt.Sprint(i), i, put(fmt.Sprint(i), i, "b"))
	}
	if a.Count() != 20 || b.Count() != 20 {
		t.Error(a.Count(), b.Count())
	}
}

func FuzzSkip(f *testing.F) {
	f.Add(sample(60))
	f.Add(sample(301))
	f.Fuzz(func(t *testing.T, b []byte) { walk(t, b[:min(len(b), 600)]) })
}
