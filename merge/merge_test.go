package merge

import (
	"bytes"
	"fmt"
	"math"
	"math/rand/v2"
	"regexp"
	"slices"
	"strconv"
	"strings"
	"sync"
	"testing"

	"sawyer/api"
	"sawyer/skip"
)

// word is an entry as the tests write it: its key's letters, its Seq, ! if it is Gone, and = ahead of its value.
var word = regexp.MustCompile(`^([a-z]*)(-?[0-9]+)(!?)(?:=(.*))?$`)

// list are the entries that words tell.
func list(words string) []api.Entry {
	var out []api.Entry
	for _, w := range strings.Fields(words) {
		m := word.FindStringSubmatch(w)
		seq, err := strconv.Atoi(m[2])
		if err != nil {
			panic(err)
		}
		out = append(out, api.Entry{Key: []byte(m[1]), Seq: seq, Gone: m[3] == "!", Value: []byte(m[4])})
	}
	return out
}

// lists are the lists that words tell, with a bar between two of them.
func lists(words string) [][]api.Entry {
	var out [][]api.Entry
	for _, w := range strings.Split(words, "|") {
		out = append(out, list(w))
	}
	return out
}

func isWord(b []byte) bool {
	for _, c := range b {
		if c < 'a' || c > 'z' {
			return false
		}
	}
	return len(b) <= 20
}

// told are the words of entries; other keys and values by their beginning and length.
func told(l []api.Entry) string {
	var out []string
	for _, e := range l {
		w := string(e.Key)
		if !isWord(e.Key) {
			w = fmt.Sprintf("%.9q(%d)", e.Key, len(e.Key))
		}
		w += strconv.Itoa(e.Seq)
		if e.Gone {
			w += "!"
		}
		switch {
		case !isWord(e.Value):
			w += fmt.Sprintf("=%.9q(%d)", e.Value, len(e.Value))
		case len(e.Value) > 0:
			w += "=" + string(e.Value)
		}
		out = append(out, w)
	}
	if len(out) > 40 {
		out = append(out[:40], fmt.Sprintf(".. %d in all", len(l)))
	}
	return strings.Join(out, " ")
}

func toldLists(l [][]api.Entry) string {
	var out []string
	for _, list := range l {
		out = append(out, told(list))
	}
	if len(out) > 40 {
		out = append(out[:40], fmt.Sprintf(".. %d in all", len(l)))
	}
	return strings.Join(out, " | ")
}

func alike(a, b api.Entry) bool {
	return bytes.Equal(a.Key, b.Key) && a.Seq == b.Seq && a.Gone == b.Gone && bytes.Equal(a.Value, b.Value)
}

func allAlike(a, b []api.Entry) bool { return slices.EqualFunc(a, b, alike) }

func listsAlike(a, b [][]api.Entry) bool { return slices.EqualFunc(a, b, allAlike) }

// wantAhead: does a go ahead of b, by the words of chapter 6?
func wantAhead(a, b api.Entry) bool {
	if string(a.Key) != string(b.Key) {
		return string(a.Key) < string(b.Key)
	}
	return a.Seq > b.Seq
}

// isRow: does each entry go ahead of the next one?
func isRow(l []api.Entry) bool {
	for i := 1; i < len(l); i++ {
		if !wantAhead(l[i-1], l[i]) {
			return false
		}
	}
	return true
}

// wantMerge is what the chapter asks of Merge: entry by entry, each put to its place unless one of its Key and Seq is there.
func wantMerge(l [][]api.Entry) []api.Entry {
	var out []api.Entry
	for _, e := range slices.Concat(l...) {
		at := 0
		for at < len(out) && wantAhead(out[at], e) {
			at++
		}
		if at == len(out) || wantAhead(e, out[at]) {
			out = slices.Insert(out, at, e)
		}
	}
	return out
}

// ends are the places in l just behind each key's entries.
func ends(l []api.Entry) []int {
	var out []int
	for i := range l {
		if i+1 == len(l) || string(l[i].Key) != string(l[i+1].Key) {
			out = append(out, i+1)
		}
	}
	return out
}

func wantVisible(l []api.Entry, seq int) []api.Entry {
	var out []api.Entry
	from := 0
	for _, to := range ends(l) {
		for _, e := range l[from:to] {
			if e.Seq > seq {
				continue
			}
			if !e.Gone {
				out = append(out, e)
			}
			break
		}
		from = to
	}
	return out
}

func wantPrune(l []api.Entry, pins []int, bottom bool) []api.Entry {
	kept := make([]bool, len(l))
	from := 0
	for _, to := range ends(l) {
		kept[from] = true
		for _, pin := range pins {
			for i := from; i < to; i++ {
				if l[i].Seq <= pin {
					kept[i] = true
					break
				}
			}
		}
		for i := to - 1; bottom && i >= from && (!kept[i] || l[i].Gone); i-- {
			kept[i] = false
		}
		from = to
	}
	var out []api.Entry
	for i, e := range l {
		if kept[i] {
			out = append(out, e)
		}
	}
	return out
}

func wantSplit(l []api.Entry, most int) [][]api.Entry {
	var out [][]api.Entry
	var piece []api.Entry
	from := 0
	for _, to := range ends(l) {
		if len(piece) > 0 && len(piece)+to-from > most {
			out, piece = append(out, piece), nil
		}
		piece = append(piece, l[from:to]...)
		from = to
	}
	if len(piece) > 0 {
		out = append(out, piece)
	}
	return out
}

func merges(t *testing.T, l [][]api.Entry, want []api.Entry) {
	t.Helper()
	if is := Merge(l); !allAlike(is, want) {
		t.Errorf("Merge(%s): %s; not %s", toldLists(l), told(is), told(want))
	}
}

func sees(t *testing.T, l []api.Entry, seq int, want []api.Entry) {
	t.Helper()
	if is := Visible(l, seq); !allAlike(is, want) {
		t.Errorf("Visible(%s, %d): %s; not %s", told(l), seq, told(is), told(want))
	}
}

func prunes(t *testing.T, l []api.Entry, pins []int, bottom bool, want []api.Entry) {
	t.Helper()
	if is := Prune(l, pins, bottom); !allAlike(is, want) {
		t.Errorf("Prune(%s, %v, %v): %s; not %s", told(l), pins, bottom, told(is), told(want))
	}
}

func splits(t *testing.T, l []api.Entry, most int, want [][]api.Entry) {
	t.Helper()
	if is := Split(l, most); !listsAlike(is, want) {
		t.Errorf("Split(%s, %d): %s; not %s", told(l), most, toldLists(is), toldLists(want))
	}
}

// judged holds all calls at one list against the chapter's words.
func judged(t *testing.T, l []api.Entry, seq int, pins []int, most int) {
	t.Helper()
	merges(t, [][]api.Entry{l}, wantMerge([][]api.Entry{l}))
	sees(t, l, seq, wantVisible(l, seq))
	prunes(t, l, pins, false, wantPrune(l, pins, false))
	prunes(t, l, pins, true, wantPrune(l, pins, true))
	splits(t, l, most, wantSplit(l, most))
}

// sample is n bytes that aren't alike.
func sample(n int) []byte {
	b := make([]byte, n)
	x := uint32(n)*2654435761 + 1
	for i := range b {
		x = x*1664525 + 1013904223
		b[i] = byte(x >> 24)
	}
	return b
}

// anyEntry is an entry by a source: keys of few letters and small Seqs, so that many are alike in something; now and then one that no list of chapter 6 takes.
func anyEntry(r *rand.Rand) api.Entry {
	e := api.Entry{Key: make([]byte, r.IntN(3)), Seq: r.IntN(12), Gone: r.IntN(3) == 0, Value: sample(r.IntN(4))}
	for i := range e.Key {
		e.Key[i] = "\x00ab\xff"[r.IntN(4)]
	}
	switch r.IntN(40) {
	case 0:
		e.Key = append(sample(64), e.Key...)
	case 1:
		e.Seq = []int{math.MinInt, -1, 1 << 40, math.MaxInt}[r.IntN(4)]
	case 2:
		e.Value = sample(1025)
	}
	return e
}

func anyList(r *rand.Rand, n int) []api.Entry {
	var out []api.Entry
	for range n {
		out = append(out, anyEntry(r))
	}
	return out
}

func anyRow(r *rand.Rand, n int) []api.Entry { return wantMerge([][]api.Entry{anyList(r, n)}) }

func anyPins(r *rand.Rand, n int) []int {
	var out []int
	for range n {
		pin := r.IntN(14) - 1
		if r.IntN(30) == 0 {
			pin = []int{math.MinInt, -1, 1 << 40, math.MaxInt}[r.IntN(4)]
		}
		out = append(out, pin)
	}
	return out
}

// The chapter's example.
func TestExample(t *testing.T) {
	l := list("a5 a3 a1 b4!")
	prunes(t, l, []int{3}, false, list("a5 a3 b4!"))
	prunes(t, l, []int{3}, true, list("a5 a3"))
	sees(t, l, 4, list("a3"))
}

// P12.1: all entries, in order; of those of one Key and Seq the first one alone.
func TestMerge(t *testing.T) {
	for _, x := range []struct{ lists, want string }{
		{"", ""},
		{"|", ""},
		{"||||", ""},
		{"a1=x", "a1=x"},
		{"|a1=x|", "a1=x"},
		{"a5 a3! a1 b4", "a5 a3! a1 b4"},
		{"a1|b1", "a1 b1"},
		{"b1|a1", "a1 b1"},
		{"a1|a2", "a2 a1"},
		{"a1 c1 e1|b1 d1 f1", "a1 b1 c1 d1 e1 f1"},
		{"a1 b1 c1|d1 e1 f1", "a1 b1 c1 d1 e1 f1"},
		{"d1 e1 f1|a1 b1 c1", "a1 b1 c1 d1 e1 f1"},
		{"a9 a1|a5|a7 a3", "a9 a7 a5 a3 a1"},
		{"a3=x c1=x|a5=y a3=y b2=y|", "a5=y a3=x b2=y c1=x"},
		{"a10 a9|a11 a2", "a11 a10 a9 a2"},
		{"b1|a1|d1|c1|f1|e1|g1", "a1 b1 c1 d1 e1 f1 g1"},
		{"a5!|a4=x|a3!|a4=y", "a5! a4=x a3!"},
		{"a-1|a1|a0|a-2", "a1 a0 a-1 a-2"},
		{"a1=x|1=y|2", "2 1=y a1=x"},
		{"ab1|a1|abc1|b1|aa1", "a1 aa1 ab1 abc1 b1"},
	} {
		merges(t, lists(x.lists), list(x.want))
	}
}

// P12.1: which of those of one Key and Seq is answered: the first list's, in it the first one.
func TestMergeAlike(t *testing.T) {
	for _, x := range []struct{ lists, want string }{
		{"a1=x|a1=y", "a1=x"},
		{"a1=y|a1=x", "a1=y"},
		{"a1=x a1=y", "a1=x"},
		{"a1=y a1=x", "a1=y"},
		{"a1=x a1=y|a1=z", "a1=x"},
		{"a1=z|a1=x a1=y", "a1=z"},
		{"|a1=z|a1=x|a1=y", "a1=z"},
		{"a1!|a1=x", "a1!"},
		{"a1=x|a1!", "a1=x"},
		{"a1|a1=x", "a1"},
		{"a1=x a1=x a1=x", "a1=x"},
		{"b1=x|a1=x|b1=y|a1=y", "a1=x b1=x"},
		{"a2=x a1=x|a3=y a2=y a1=y a0=y", "a3=y a2=x a1=x a0=y"},
		{"a3=y a2=y a1=y a0=y|a2=x a1=x", "a3=y a2=y a1=y a0=y"},
		{"a1=x b1=x c1=x|a1=y b1=y c1=y d1=y|b1=z d1=z e1=z", "a1=x b1=x c1=x d1=y e1=z"},
		{"c1=x b1=x a1=x a1=y b1=y c1=y", "a1=x b1=x c1=x"},
		{"b1=x a1=x b1=y|a1=z b1=z", "a1=x b1=x"},
	} {
		merges(t, lists(x.lists), list(x.want))
	}
	for n := 1; n < 20; n++ { // whatever way the lists are gone through
		var l [][]api.Entry
		for i := range n {
			l = append(l, []api.Entry{{Key: []byte("k"), Seq: 3, Value: []byte{byte(i)}}, {Key: []byte("m"), Seq: i, Value: []byte("x")}, {Key: []byte("n"), Seq: 3, Value: []byte{byte(i)}}})
		}
		for at := range n {
			turned := slices.Concat(l[at:], l[:at])
			is := Merge(turned)
			if len(is) != n+2 || int(is[0].Value[0]) != at || int(is[n+1].Value[0]) != at {
				t.Errorf("%d lists, the first one %d: %s", n, at, told(is))
			}
		}
	}
}

// P12.1: lists that are no rows are put in order.
func TestMergeNoRows(t *testing.T) {
	for _, x := range []struct{ lists, want string }{
		{"b1 a1", "a1 b1"},
		{"a1 a2", "a2 a1"},
		{"a1 b1 a2", "a2 a1 b1"},
		{"f1 e1 d1 c1 b1 a1", "a1 b1 c1 d1 e1 f1"},
		{"a1 a2 a3 a4 a5", "a5 a4 a3 a2 a1"},
		{"a1 b1|b2 a2|c1", "a2 a1 b2 b1 c1"},
		{"b2 a1=x b2|a2 a1=y", "a2 a1=x b2"},
		{"b1 a1|d1 c1|f1 e1", "a1 b1 c1 d1 e1 f1"},
		{"b1=x a3 b1=y a3! b1=z", "a3 b1=x"},
	} {
		merges(t, lists(x.lists), list(x.want))
	}
}

// P12.1, P12.5: in whatever order entries stand, and however they lie in lists, the same Keys and Seqs are answered, and they are a row.
func TestMergeAnyOrder(t *testing.T) {
	want := list("1 a3 a2! a1 aa5 b7! b0")
	r := rand.New(rand.NewPCG(12, 1))
	for range 3000 {
		l := make([][]api.Entry, 1+r.IntN(5))
		for _, at := range r.Perm(len(want)) {
			to := r.IntN(len(l))
			l[to] = append(l[to], want[at])
			if r.IntN(4) == 0 {
				l[to] = append(l[to], want[r.IntN(len(want))])
			}
		}
		merges(t, l, want)
	}
}

// P12.1: keys go by bytes, whatever they are and however long, of one key the greater Seq first.
func TestMergeOrder(t *testing.T) {
	keys := [][]byte{nil, {0}, {0, 0}, {0, 255}, {1}, []byte("a"), []byte("a\x00"), []byte("a\x00b"), []byte("aa"), []byte("ab"), []byte("b"), {127}, {128}, {255}, {255, 0}, {255, 255}, bytes.Repeat([]byte{255}, 64), bytes.Repeat([]byte{255}, 65), bytes.Repeat([]byte{255}, 5000)}
	seqs := []int{math.MaxInt, math.MaxInt - 1, 1<<40 + 1, 1 << 40, 1 << 32, 256, 255, 1, 0, -1, -256, math.MinInt + 1, math.MinInt}
	var want []api.Entry
	for _, k := range keys {
		for _, seq := range seqs {
			want = append(want, api.Entry{Key: k, Seq: seq, Gone: seq%2 == 0, Value: k})
		}
	}
	backward := slices.Clone(want)
	slices.Reverse(backward)
	var single, threes [][]api.Entry
	threes = make([][]api.Entry, 3)
	for i, e := range backward {
		single = append(single, []api.Entry{e})
		threes[i%3] = append(threes[i%3], e)
	}
	for _, l := range [][][]api.Entry{{want}, {backward}, single, threes, {want, backward}, {nil, backward[20:], backward[:30]}} {
		merges(t, l, want)
	}
}

// P12.1: a key that is nil, and one without bytes, are the same.
func TestNilKey(t *testing.T) {
	one, two := api.Entry{Seq: 1, Value: []byte("x")}, api.Entry{Key: []byte{}, Seq: 1, Value: []byte("y")}
	older, newer := api.Entry{Key: []byte{}, Seq: 0}, api.Entry{Seq: 2, Gone: true}
	merges(t, [][]api.Entry{{one}, {two}}, []api.Entry{one})
	merges(t, [][]api.Entry{{two}, {one}}, []api.Entry{two})
	merges(t, [][]api.Entry{{older}, {one}, {newer}}, []api.Entry{newer, one, older})
	l := []api.Entry{newer, one, older}
	sees(t, l, 1, []api.Entry{one})
	sees(t, l, 2, nil)
	prunes(t, l, []int{0}, true, []api.Entry{newer, older})
	splits(t, l, 1, [][]api.Entry{l})
}

// R1: it ends, of many lists, and of long ones in any order.
func TestMergeMany(t *testing.T) {
	const n = 1 << 16
	var want []api.Entry
	for i := range n {
		want = append(want, api.Entry{Key: []byte(fmt.Sprintf("%05d", i/3)), Seq: -i})
	}
	backward := slices.Clone(want)
	slices.Reverse(backward)
	var single [][]api.Entry
	for i := range want {
		single = append(single, backward[i:i+1])
	}
	same := slices.Repeat(want[:1], n)
	for what, x := range map[string]struct {
		l    [][]api.Entry
		want []api.Entry
	}{
		"forward": {[][]api.Entry{want}, want}, "backward": {[][]api.Entry{backward}, want}, "single": {single, want},
		"the same": {[][]api.Entry{same}, want[:1]}, "twice": {append(single, want), want}, "no entries": {make([][]api.Entry, n), nil},
	} {
		if is := Merge(x.l); !allAlike(is, x.want) {
			t.Errorf("%s: %s", what, told(is))
		}
	}
}

// P12.2: of each key its first entry whose Seq is not above seq, unless that is Gone.
func TestVisible(t *testing.T) {
	for _, x := range []struct {
		list string
		seq  int
		want string
	}{
		{"", 5, ""},
		{"a5=x a3=y a1=z", -1, ""},
		{"a5=x a3=y a1=z", 0, ""},
		{"a5=x a3=y a1=z", 1, "a1=z"},
		{"a5=x a3=y a1=z", 2, "a1=z"},
		{"a5=x a3=y a1=z", 3, "a3=y"},
		{"a5=x a3=y a1=z", 4, "a3=y"},
		{"a5=x a3=y a1=z", 5, "a5=x"},
		{"a5=x a3=y a1=z", 6, "a5=x"},
		{"a5=x a3=y a1=z", math.MaxInt, "a5=x"},
		{"a5=x a3=y a1=z", math.MinInt, ""},
		{"a5! a3", 5, ""},
		{"a5! a3", 9, ""},
		{"a5! a3", 4, "a3"},
		{"a5! a3", 3, "a3"},
		{"a5! a3", 2, ""},
		{"a5 a3!", 4, ""},
		{"a5 a3! a1", 3, ""},
		{"a5 a3! a1", 2, "a1"},
		{"a5 a3! a1", 5, "a5"},
		{"a3!", 3, ""},
		{"a3! a2! a1!", 2, ""},
		{"a0", 0, "a0"},
		{"a0", -1, ""},
		{"a-1 a-3", -2, "a-3"},
		{"a-1 a-3", -1, "a-1"},
		{"5=x 3=y", 4, "3=y"},
		{"5 a4 a2 b7", 4, "a4"},
		{"5 a4! a2 b7", 7, "5 b7"},
		{"a9 b9 c9", 8, ""},
		{"a9 a1 b9! b1 c9 c1! d1 e9", 8, "a1 b1 d1"},
		{"a9 a1 b9! b1 c9 c1! d1 e9", 9, "a9 c9 d1 e9"},
		{"a1 aa1 ab1", 1, "a1 aa1 ab1"},
	} {
		sees(t, list(x.list), x.seq, list(x.want))
	}
}

// P12.2: lists that are no rows are taken as they stand: the first one, though a greater Seq follows; a key that stands apart twice over.
func TestVisibleNoRows(t *testing.T) {
	for _, x := range []struct {
		list string
		seq  int
		want string
	}{
		{"a1 a3 a5", 9, "a1"},
		{"a1 a3 a5", 0, ""},
		{"a3 a1 a5", 1, "a1"},
		{"a3 a5 a1 a2", 2, "a1"},
		{"a1! a3", 5, ""},
		{"a5 a1! a3", 3, ""},
		{"a1 b1 a2", 9, "a1 b1 a2"},
		{"a1 b1 a2", 1, "a1 b1"},
		{"a3 b1 a2", 2, "b1 a2"},
		{"a3! b1 a2", 3, "b1 a2"},
		{"a2 b1! a2! c1 a2", 3, "a2 c1 a2"},
		{"c1 b1 a1", 1, "c1 b1 a1"},
		{"a1=x a1=y", 1, "a1=x"},
		{"a1=x b1 a1=y", 1, "a1=x b1 a1=y"},
		{"a1! a1=y", 1, ""},
		{"1=x a1 1=y", 1, "1=x a1 1=y"},
	} {
		sees(t, list(x.list), x.seq, list(x.want))
	}
}

// P12.3: without pins of each key the first one is kept, at the bottom unless it is Gone.
func TestPruneWithoutPins(t *testing.T) {
	for _, x := range []struct{ list, want, bottom string }{
		{"", "", ""},
		{"a5", "a5", "a5"},
		{"a5!", "a5!", ""},
		{"a5 a3 a1", "a5", "a5"},
		{"a5! a3 a1", "a5!", ""},
		{"a5 a3! a1!", "a5", "a5"},
		{"a5! b4 c3! d2", "a5! b4 c3! d2", "b4 d2"},
		{"a5! b4!", "a5! b4!", ""},
		{"5 3 a1 a0", "5 a1", "5 a1"},
		{"a-1 a-2", "a-1", "a-1"},
		{"a1 aa1", "a1 aa1", "a1 aa1"},
	} {
		for _, pins := range [][]int{nil, {}} {
			prunes(t, list(x.list), pins, false, list(x.want))
			prunes(t, list(x.list), pins, true, list(x.bottom))
		}
	}
}

// P12.3: for each of pins the first one whose Seq is not above it.
func TestPrunePins(t *testing.T) {
	for _, x := range []struct {
		list         string
		pins         []int
		want, bottom string
	}{
		{"a9 a7 a5 a3", []int{9}, "a9", "a9"},
		{"a9 a7 a5 a3", []int{10}, "a9", "a9"},
		{"a9 a7 a5 a3", []int{math.MaxInt}, "a9", "a9"},
		{"a9 a7 a5 a3", []int{8}, "a9 a7", "a9 a7"},
		{"a9 a7 a5 a3", []int{7}, "a9 a7", "a9 a7"},
		{"a9 a7 a5 a3", []int{6}, "a9 a5", "a9 a5"},
		{"a9 a7 a5 a3", []int{5}, "a9 a5", "a9 a5"},
		{"a9 a7 a5 a3", []int{4}, "a9 a3", "a9 a3"},
		{"a9 a7 a5 a3", []int{3}, "a9 a3", "a9 a3"},
		{"a9 a7 a5 a3", []int{2}, "a9", "a9"},
		{"a9 a7 a5 a3", []int{0}, "a9", "a9"},
		{"a9 a7 a5 a3", []int{-1}, "a9", "a9"},
		{"a9 a7 a5 a3", []int{math.MinInt}, "a9", "a9"},
		{"a9 a7 a5 a3", []int{3, 5}, "a9 a5 a3", "a9 a5 a3"},
		{"a9 a7 a5 a3", []int{5, 3}, "a9 a5 a3", "a9 a5 a3"},
		{"a9 a7 a5 a3", []int{6, 3, 8, 3}, "a9 a7 a5 a3", "a9 a7 a5 a3"},
		{"a9 a7 a5 a3", []int{5, 6}, "a9 a5", "a9 a5"},
		{"a9 a7 a5 a3", []int{6, 6, 6}, "a9 a5", "a9 a5"},
		{"a9 a7 a5 a3", []int{-5, 20, 2, 4, -1}, "a9 a3", "a9 a3"},
		{"a0 a-2 a-4", []int{-3}, "a0 a-4", "a0 a-4"},
		{"a0 a-2 a-4", []int{-1, -5}, "a0 a-2", "a0 a-2"},
		{"a9 a4 b5 b3 c2 d9", []int{4}, "a9 a4 b5 b3 c2 d9", "a9 a4 b5 b3 c2 d9"},
		{"a9 a8 a1 b9 b8 b1", []int{8}, "a9 a8 b9 b8", "a9 a8 b9 b8"},
		{"a9 a8 a1 b9 b8 b1", []int{7, 1}, "a9 a1 b9 b1", "a9 a1 b9 b1"},
		{"a3 a1 b9 b7 b5", []int{6, 8}, "a3 b9 b7 b5", "a3 b9 b7 b5"},
	} {
		prunes(t, list(x.list), x.pins, false, list(x.want))
		prunes(t, list(x.list), x.pins, true, list(x.bottom))
	}
}

// P12.3: at the bottom, of those that are kept, the last ones that are Gone are not.
func TestPruneGone(t *testing.T) {
	for _, x := range []struct {
		list         string
		pins         []int
		want, bottom string
	}{
		{"a5! a3", []int{4}, "a5! a3", "a5! a3"},
		{"a5! a3", []int{2}, "a5!", ""},
		{"a5! a3", []int{5}, "a5!", ""},
		{"a5 a3!", []int{4}, "a5 a3!", "a5"},
		{"a5 a3! a1", []int{4}, "a5 a3!", "a5"},
		{"a5 a3! a1", []int{4, 1}, "a5 a3! a1", "a5 a3! a1"},
		{"a5 a3! a1", []int{2}, "a5 a1", "a5 a1"},
		{"a5 a3! a1!", []int{4, 1}, "a5 a3! a1!", "a5"},
		{"a5! a3! a1!", []int{4, 1}, "a5! a3! a1!", ""},
		{"a5! a3 a1!", []int{4, 1}, "a5! a3 a1!", "a5! a3"},
		{"a7! a5 a3! a1!", []int{6, 4, 2}, "a7! a5 a3! a1!", "a7! a5"},
		{"a7! a5 a3! a1", []int{4}, "a7! a3!", ""},
		{"a7 a5 a3! a1", []int{4}, "a7 a3!", "a7"},
		{"a7! a5 a3! a1 a0!", []int{9, 0, 1}, "a7! a1 a0!", "a7! a1"},
		{"a1!", []int{1}, "a1!", ""},
		{"a2! b2 b1! c2! c1", []int{1}, "a2! b2 b1! c2! c1", "b2 c2! c1"},
		{"a7! a5 a2 b4! b2! c6 c3!", []int{6}, "a7! a5 b4! c6", "a7! a5 c6"},
		{"a7! a5 a2 b4! b2! c6 c3!", []int{3, 5}, "a7! a5 a2 b4! b2! c6 c3!", "a7! a5 a2 c6"},
		{"5! 3", []int{3}, "5! 3", "5! 3"},
	} {
		prunes(t, list(x.list), x.pins, false, list(x.want))
		prunes(t, list(x.list), x.pins, true, list(x.bottom))
	}
}

// P12.3: lists that are no rows are taken as they stand.
func TestPruneNoRows(t *testing.T) {
	for _, x := range []struct {
		list         string
		pins         []int
		want, bottom string
	}{
		{"a1 a3 a5", nil, "a1", "a1"},
		{"a1 a3 a5", []int{5, 3, 1}, "a1", "a1"},
		{"a5 a1 a3", []int{3}, "a5 a1", "a5 a1"},
		{"a5 a1 a3", []int{3, 1}, "a5 a1", "a5 a1"},
		{"a9 a3 a5 a2 a4 a1", []int{5, 2, 1}, "a9 a3 a2 a1", "a9 a3 a2 a1"},
		{"a9 a5 a6 a3", []int{6, 3, 5}, "a9 a5 a3", "a9 a5 a3"},
		{"a3 b1 a2", nil, "a3 b1 a2", "a3 b1 a2"},
		{"a3! b1 a2", nil, "a3! b1 a2", "b1 a2"},
		{"a3 b1 a2!", nil, "a3 b1 a2!", "a3 b1"},
		{"a3 a2 b1 a2! a1", []int{2}, "a3 a2 b1 a2!", "a3 a2 b1"},
		{"b1 a1", []int{1}, "b1 a1", "b1 a1"},
		{"a2=x a2=y a1", []int{2}, "a2=x", "a2=x"},
		{"a3 a2=x a2=y a1", []int{2, 1}, "a3 a2=x a1", "a3 a2=x a1"},
		{"a3! a2 a2! a1!", []int{2, 1}, "a3! a2 a1!", "a3! a2"},
		{"a1! a3", []int{3}, "a1!", ""},
	} {
		prunes(t, list(x.list), x.pins, false, list(x.want))
		prunes(t, list(x.list), x.pins, true, list(x.bottom))
	}
}

// P12.4: a key's entries begin a new piece, if the piece so far has some, and with them more than most.
func TestSplit(t *testing.T) {
	for _, x := range []struct {
		list string
		most int
		want string
	}{
		{"a1", 1, "a1"},
		{"a1", 0, "a1"},
		{"a1", -1, "a1"},
		{"a2 a1", 1, "a2 a1"},
		{"a2 a1", 0, "a2 a1"},
		{"a1 b1 c1", 0, "a1|b1|c1"},
		{"a1 b1 c1", -5, "a1|b1|c1"},
		{"a1 b1 c1", math.MinInt, "a1|b1|c1"},
		{"a1 b1 c1", 1, "a1|b1|c1"},
		{"a1 b1 c1", 2, "a1 b1|c1"},
		{"a1 b1 c1", 3, "a1 b1 c1"},
		{"a1 b1 c1", 4, "a1 b1 c1"},
		{"a1 b1 c1", math.MaxInt, "a1 b1 c1"},
		{"a1 b3 b2 b1", 3, "a1|b3 b2 b1"},
		{"a1 b2 b1", 3, "a1 b2 b1"},
		{"a1 b2 b1", 2, "a1|b2 b1"},
		{"a1 b2 b1 c1", 2, "a1|b2 b1|c1"},
		{"a1 b2 b1 c1", 3, "a1 b2 b1|c1"},
		{"a1 b4 b3 b2 b1 c1", 3, "a1|b4 b3 b2 b1|c1"},
		{"b4 b3 b2 b1 c1", 3, "b4 b3 b2 b1|c1"},
		{"b4 b3 b2 b1 c1", 4, "b4 b3 b2 b1|c1"},
		{"b4 b3 b2 b1 c1", 5, "b4 b3 b2 b1 c1"},
		{"a2 a1 b2 b1 c2 c1 d1", 4, "a2 a1 b2 b1|c2 c1 d1"},
		{"a2 a1 b2 b1 c2 c1 d1", 3, "a2 a1|b2 b1|c2 c1 d1"},
		{"a2 a1 b2 b1 c2 c1 d1", 5, "a2 a1 b2 b1|c2 c1 d1"},
		{"a7! a5 a2 b4! b2! c6 c3!", 3, "a7! a5 a2|b4! b2!|c6 c3!"},
		{"2 1 a2", 2, "2 1|a2"},
		{"a1 aa1 ab1", 1, "a1|aa1|ab1"},
	} {
		splits(t, list(x.list), x.most, lists(x.want))
	}
	for _, most := range []int{math.MinInt, -1, 0, 1, 64, math.MaxInt} {
		for _, l := range [][]api.Entry{nil, {}} {
			if p := Split(l, most); len(p) != 0 {
				t.Errorf("Split of no entries, %d: %s", most, toldLists(p))
			}
		}
	}
}

// P12.4: lists that are no rows are taken as they stand: a key that stands apart twice over, Seqs that do not fall, entries that are alike.
func TestSplitNoRows(t *testing.T) {
	for _, x := range []struct {
		list string
		most int
		want string
	}{
		{"b1 a1", 1, "b1|a1"},
		{"b1 a1", 2, "b1 a1"},
		{"a1 a2 b1", 2, "a1 a2|b1"},
		{"a1 b1 a2", 1, "a1|b1|a2"},
		{"a1 b1 a2", 2, "a1 b1|a2"},
		{"a1 a1 a1 b1", 2, "a1 a1 a1|b1"},
		{"a2 a1 b1 a2 a1", 3, "a2 a1 b1|a2 a1"},
	} {
		splits(t, list(x.list), x.most, lists(x.want))
	}
}

// P12.4: just at tables' size.
func TestSplitTables(t *testing.T) {
	var l []api.Entry
	for i := range 3*api.TableSize + 1 {
		l = append(l, api.Entry{Key: []byte(fmt.Sprintf("%03d", i)), Seq: i})
	}
	splits(t, l[:64], 64, [][]api.Entry{l[:64]})
	splits(t, l[:65], 64, [][]api.Entry{l[:64], l[64:65]})
	splits(t, l, 64, [][]api.Entry{l[:64], l[64:128], l[128:192], l[192:]})
	one := slices.Repeat(l[:1], 100)
	splits(t, slices.Concat(l[1:3], one, l[3:5]), 64, [][]api.Entry{l[1:3], one, l[3:5]})
}

// small calls f for all lists of up to n entries of two keys, three Seqs, Gone or not, the place of each in the list for its value. The list is f's until it comes back.
func small(n int, f func(l []api.Entry)) {
	var l []api.Entry
	var grow func()
	grow = func() {
		f(l)
		if len(l) == n {
			return
		}
		for i := range 12 {
			l = append(l, api.Entry{Key: []byte("ab"[i%2 : i%2+1]), Seq: i / 2 % 3, Gone: i >= 6, Value: []byte{byte('p' + len(l))}})
			grow()
			l = l[:len(l)-1]
		}
	}
	grow()
}

// pinsOf are the pins from -1 on that the bits of a number tell.
func pinsOf(set int) []int {
	var pins []int
	for i := 0; set>>i > 0; i++ {
		if set>>i&1 == 1 {
			pins = append(pins, i-1)
		}
	}
	return pins
}

// P12.1 to P12.4: all small lists, laid into two lists in all ways, seen at all Seqs, pruned by all sets of pins, split by all sizes.
func TestAllSmall(t *testing.T) {
	small(4, func(l []api.Entry) {
		for way := range 1 << len(l) {
			two := make([][]api.Entry, 2)
			for i, e := range l {
				two[way>>i&1] = append(two[way>>i&1], e)
			}
			merges(t, two, wantMerge(two))
		}
		for seq := -1; seq <= 3; seq++ {
			sees(t, l, seq, wantVisible(l, seq))
		}
		for most := -1; most <= 5; most++ {
			splits(t, l, most, wantSplit(l, most))
		}
		for set := range 1 << 5 {
			pins := pinsOf(set)
			if len(l) == 4 && (slices.Contains(pins, -1) || slices.Contains(pins, 3)) { // these are told by the shorter lists
				continue
			}
			prunes(t, l, pins, false, wantPrune(l, pins, false))
			prunes(t, l, pins, true, wantPrune(l, pins, true))
		}
	})
}

// P12.1 to P12.4: any lists, rows or none, long ones too, with any pins.
func TestAny(t *testing.T) {
	r := rand.New(rand.NewPCG(12, 4))
	for range 3000 {
		var l [][]api.Entry
		for range r.IntN(9) {
			if r.IntN(2) == 0 {
				l = append(l, anyList(r, r.IntN(30)))
			} else {
				l = append(l, anyRow(r, r.IntN(30)))
			}
		}
		merges(t, l, wantMerge(l))
		judged(t, slices.Concat(l...), r.IntN(14)-1, anyPins(r, r.IntN(8)), r.IntN(12)-1)
		judged(t, wantMerge(l), r.IntN(14)-1, anyPins(r, r.IntN(8)), r.IntN(12)-1)
	}
}

// R1: it ends, of many keys with many pins, of one key with many versions.
func TestPruneMany(t *testing.T) {
	const n = 1 << 16
	var keys, versions []api.Entry
	var pins []int
	for i := range n {
		keys = append(keys, api.Entry{Key: []byte(fmt.Sprintf("%05d", i)), Seq: i})
		versions = append(versions, api.Entry{Key: []byte("k"), Seq: 2 * (n - i), Gone: i > n/2})
		pins = append(pins, 2*i+1)
	}
	for what, x := range map[string]struct{ is, want []api.Entry }{
		"keys":                   {Prune(keys, pins, true), keys},
		"versions":               {Prune(versions, pins, false), versions},
		"versions at the bottom": {Prune(versions, pins, true), versions[:n/2+1]},
		"versions without pins":  {Prune(versions, nil, true), versions[:1]},
		"keys that are seen":     {Visible(keys, math.MaxInt), keys},
		"a version that is seen": {Visible(versions, n), versions[n/2 : n/2+1]},
		"a version that is Gone": {Visible(versions, n-1), nil},
		"pieces":                 {slices.Concat(Split(keys, 1)...), keys},
		"one piece":              {slices.Concat(Split(versions, 1)...), versions},
	} {
		if !allAlike(x.is, x.want) {
			t.Errorf("%s: %s; not %s", what, told(x.is), told(x.want))
		}
	}
}

// P12.5: Merge of rows is a row, and has just the Keys and Seqs that the rows have.
func TestFollowsRow(t *testing.T) {
	r := rand.New(rand.NewPCG(12, 5))
	for range 2000 {
		l := make([][]api.Entry, r.IntN(6))
		has := map[string]int{}
		for i := range l {
			l[i] = anyRow(r, r.IntN(20))
			for _, e := range l[i] {
				has[fmt.Sprintf("%q %d", e.Key, e.Seq)]++
			}
		}
		is := Merge(l)
		if !isRow(is) || len(is) != len(has) {
			t.Errorf("Merge(%s): %s", toldLists(l), told(is))
		}
		for _, e := range is {
			if has[fmt.Sprintf("%q %d", e.Key, e.Seq)] == 0 {
				t.Errorf("Merge(%s) has %s", toldLists(l), told([]api.Entry{e}))
			}
		}
		merges(t, [][]api.Entry{is}, is)
		merges(t, [][]api.Entry{is, is}, is)
		if n := len(l) / 2; !allAlike(Merge([][]api.Entry{Merge(l[:n]), Merge(l[n:])}), is) {
			t.Errorf("Merge(%s) in two steps is not %s", toldLists(l), told(is))
		}
	}
}

// seenAlike fails, unless at each pin, and from the greatest Seq on, the same is seen of l and of what Prune keeps of it.
func seenAlike(t *testing.T, l []api.Entry, pins []int, bottom bool) {
	t.Helper()
	kept := Prune(l, pins, bottom)
	seqs := append(slices.Clone(pins), math.MaxInt)
	greatest := math.MinInt
	for _, e := range l {
		greatest = max(greatest, e.Seq)
	}
	for range 3 {
		seqs = append(seqs, greatest)
		if greatest < math.MaxInt {
			greatest++
		}
	}
	for _, seq := range seqs {
		if was, is := Visible(l, seq), Visible(kept, seq); !allAlike(was, is) {
			t.Errorf("Prune(%s, %v, %v) is %s: seen at %d %s; was %s", told(l), pins, bottom, told(kept), seq, told(is), told(was))
		}
	}
	if again := Prune(kept, pins, bottom); !allAlike(again, kept) {
		t.Errorf("Prune(%s, %v, %v) is %s; once more %s", told(l), pins, bottom, told(kept), told(again))
	}
}

// P12.5: what is seen at each of pins, and at all Seqs from the greatest one on, is the same behind Prune.
func TestFollowsSeen(t *testing.T) {
	for _, words := range []string{"", "a5 a3 a1 b4!", "a5! a3 a1! b4! b2", "a3! a2! a1!", "a9 b8! c7 d6!", "5! 3 a4 a2!", "a0 a-1! a-2"} {
		for set := range 1 << 7 {
			seenAlike(t, list(words), pinsOf(set), false)
			seenAlike(t, list(words), pinsOf(set), true)
		}
	}
	r := rand.New(rand.NewPCG(12, 6))
	for range 3000 {
		l := anyRow(r, r.IntN(40))
		pins := anyPins(r, r.IntN(6))
		seenAlike(t, l, pins, false)
		seenAlike(t, l, pins, true)
	}
}

// P12.5: pieces, one behind the other, are the entries; no piece parts a key or is empty; none has more than most, if no key has; none could have taken the next key, too.
func TestFollowsPieces(t *testing.T) {
	r := rand.New(rand.NewPCG(12, 7))
	for range 3000 {
		l := anyRow(r, r.IntN(60))
		most := r.IntN(20) - 2
		longest := 0
		size := map[string]int{}
		for _, e := range l {
			size[string(e.Key)]++
			longest = max(longest, size[string(e.Key)])
		}
		pieces := Split(l, most)
		if !allAlike(slices.Concat(pieces...), l) {
			t.Errorf("Split(%s, %d): %s", told(l), most, toldLists(pieces))
		}
		for i, p := range pieces {
			if len(p) == 0 || longest <= most && len(p) > most {
				t.Errorf("Split(%s, %d): a piece %s", told(l), most, told(p))
				continue
			}
			if len(p) > most && size[string(p[0].Key)] != len(p) {
				t.Errorf("Split(%s, %d): a piece of some keys %s", told(l), most, told(p))
			}
			if i > 0 && (string(pieces[i-1][0].Key) == string(p[0].Key) || len(pieces[i-1])+size[string(p[0].Key)] <= most) {
				t.Errorf("Split(%s, %d): a piece that begins too soon %s", told(l), most, told(p))
			}
		}
	}
}

// Chapter 6: what is seen of a skip list's entries is what it scans, but those that are Gone; parts of it, merged, are it.
func TestAgainstSkip(t *testing.T) {
	r := rand.New(rand.NewPCG(12, 8))
	for range 300 {
		whole, some, others := skip.New(), skip.New(), skip.New()
		for range r.IntN(60) {
			e := api.Entry{Key: []byte{"abc"[r.IntN(3)]}, Seq: r.IntN(20), Gone: r.IntN(3) == 0}
			if whole.Put(e, 1+r.IntN(12)) == api.OK {
				[]*skip.List{some, others}[r.IntN(2)].Put(e, 1)
			}
		}
		merges(t, [][]api.Entry{some.All(), others.All()}, whole.All())
		for seq := -1; seq <= 20; seq++ {
			gone := func(e api.Entry) bool { return e.Gone }
			sees(t, whole.All(), seq, slices.DeleteFunc(whole.Scan(nil, nil, seq), gone))
		}
	}
}

// R1: nil lists, entries without anything, numbers at the ends of int.
func TestNil(t *testing.T) {
	numbers := []int{math.MinInt, math.MinInt + 1, -1, 0, 1, math.MaxInt - 1, math.MaxInt}
	for _, l := range [][][]api.Entry{nil, {}, {nil}, {nil, nil, {}}, make([][]api.Entry, 1000)} {
		if is := Merge(l); len(is) != 0 {
			t.Errorf("Merge(%v): %s", l, told(is))
		}
	}
	for _, n := range numbers {
		for _, l := range [][]api.Entry{nil, {}} {
			if len(Visible(l, n)) != 0 || len(Prune(l, nil, false)) != 0 || len(Prune(l, nil, true)) != 0 || len(Prune(l, []int{n}, true)) != 0 || len(Split(l, n)) != 0 {
				t.Errorf("something of nothing, by %d", n)
			}
		}
	}
	zeros := make([]api.Entry, 3)
	merges(t, [][]api.Entry{zeros, nil, zeros}, zeros[:1])
	sees(t, zeros, 0, zeros[:1])
	sees(t, zeros, -1, nil)
	prunes(t, zeros, nil, true, zeros[:1])
	prunes(t, zeros, numbers, false, zeros[:1])
	splits(t, zeros, 0, [][]api.Entry{zeros})
	var l []api.Entry
	for _, seq := range numbers {
		l = append(l, api.Entry{Seq: seq}, api.Entry{Key: []byte("a"), Seq: seq, Gone: true}, api.Entry{Key: []byte("b"), Seq: -seq})
	}
	merges(t, [][]api.Entry{l, l[3:]}, wantMerge([][]api.Entry{l}))
	for _, l := range [][]api.Entry{l, wantMerge([][]api.Entry{l})} {
		for _, n := range numbers {
			for _, pin := range numbers {
				judged(t, l, n, []int{pin, n}, n)
			}
		}
		judged(t, l, 0, numbers, 0)
	}
}

// P12.2, P12.3: the ends of int are Seqs and pins as others are.
func TestEnds(t *testing.T) {
	l := []api.Entry{{Key: []byte("a"), Seq: math.MaxInt}, {Key: []byte("a"), Seq: 0}, {Key: []byte("a"), Seq: math.MinInt}}
	sees(t, l, math.MaxInt, l[:1])
	sees(t, l, math.MaxInt-1, l[1:2])
	sees(t, l, -1, l[2:])
	sees(t, l, math.MinInt, l[2:])
	prunes(t, l, []int{math.MaxInt}, false, l[:1])
	prunes(t, l, []int{math.MaxInt - 1}, false, l[:2])
	prunes(t, l, []int{math.MinInt}, false, []api.Entry{l[0], l[2]})
	prunes(t, l, []int{math.MinInt, math.MaxInt, 0}, true, l)
}

// roomy are the same bytes with room behind them, all of it full of 170; nil stays nil.
func roomy(b []byte) []byte {
	if b == nil {
		return nil
	}
	out := bytes.Repeat([]byte{170}, len(b)+16)
	copy(out, b)
	return out[:len(b)]
}

func roomyEntries(l []api.Entry) []api.Entry {
	out := make([]api.Entry, len(l), len(l)+3)
	for i, e := range l {
		e.Key, e.Value = roomy(e.Key), roomy(e.Value)
		out[i] = e
	}
	return out
}

// all tells entries with the room behind them and behind their bytes.
func all(l []api.Entry) string {
	s := fmt.Sprintf("%d of %d", len(l), cap(l))
	for _, e := range l[:cap(l)] {
		s += fmt.Sprintf(" / %x %d %v %x", e.Key[:cap(e.Key)], e.Seq, e.Gone, e.Value[:cap(e.Value)])
	}
	return s
}

// handed are lists as they may be handed in: rows, none, with one's bytes nil.
func handed() [][]api.Entry {
	r := rand.New(rand.NewPCG(12, 9))
	out := [][]api.Entry{nil, {{}}, {{Seq: 3}, {Key: []byte("a")}}, list("a5=x a3=y a1=z b4! c2=x"), list("b1 a1 b1 a2=x a2=y"), list("a1=x a1=y"), list("a5! a3! b1=x")}
	for range 20 {
		out = append(out, anyRow(r, 12), anyList(r, 12))
	}
	return out
}

// R3: what is handed in is as it was, also the room behind it.
func TestHandedIn(t *testing.T) {
	in := make([][]api.Entry, 0, 100)
	var were []string
	for _, l := range handed() {
		in = append(in, roomyEntries(l))
		were = append(were, all(in[len(in)-1]))
	}
	pins := slices.Grow([]int{5, 3, 9, 3, -1}, 3)
	unturned := func(what string) {
		for i, l := range in {
			if is := all(l); is != were[i] {
				t.Errorf("%s: %s; was %s", what, is, were[i])
			}
		}
		for _, l := range in[len(in):cap(in)] {
			if l != nil {
				t.Errorf("%s: the room behind the lists is turned", what)
			}
		}
		if all := pins[:8]; !slices.Equal(all, []int{5, 3, 9, 3, -1, 0, 0, 0}) {
			t.Errorf("%s: the pins are %v", what, all)
		}
	}
	Merge(in)
	unturned("Merge")
	for _, l := range in {
		Merge([][]api.Entry{l})
		Visible(l, 4)
		unturned("Visible")
		Prune(l, pins, false)
		Prune(l, pins, true)
		unturned("Prune")
		Split(l, 2)
		unturned("Split")
	}
}

// turn turns all bytes, and those of the room behind them.
func turn(b []byte) {
	b = b[:cap(b)]
	for i := range b {
		b[i] ^= 255
	}
}

// spoil turns entries, and fills the room behind them.
func spoil(l []api.Entry) {
	for i := range l {
		turn(l[i].Key)
		turn(l[i].Value)
		l[i].Seq, l[i].Gone = ^l[i].Seq, !l[i].Gone
	}
	room := l[len(l):cap(l)]
	for i := range room {
		room[i] = api.Entry{Key: []byte("room"), Seq: -77, Value: []byte("room")}
	}
}

// calls are all calls at some lists, their answers as lists of entries.
func calls() map[string]func(l []api.Entry) [][]api.Entry {
	one := func(l []api.Entry) [][]api.Entry { return [][]api.Entry{l} }
	return map[string]func(l []api.Entry) [][]api.Entry{
		"Merge of one":  func(l []api.Entry) [][]api.Entry { return one(Merge([][]api.Entry{l})) },
		"Merge of two":  func(l []api.Entry) [][]api.Entry { return one(Merge([][]api.Entry{l, l})) },
		"Merge of some": func(l []api.Entry) [][]api.Entry { return one(Merge([][]api.Entry{l[:len(l)/2], nil, l[len(l)/2:]})) },
		"Visible":       func(l []api.Entry) [][]api.Entry { return one(Visible(l, 4)) },
		"Prune":         func(l []api.Entry) [][]api.Entry { return one(Prune(l, []int{8, 6, 4, 2, 0}, false)) },
		"Prune bottom":  func(l []api.Entry) [][]api.Entry { return one(Prune(l, []int{8, 6, 4, 2, 0}, true)) },
		"Split in one":  func(l []api.Entry) [][]api.Entry { return Split(l, math.MaxInt) },
		"Split":         func(l []api.Entry) [][]api.Entry { return Split(l, 3) },
		"Split by keys": func(l []api.Entry) [][]api.Entry { return Split(l, 0) },
	}
}

// R3: what is answered is new memory: it does not turn with what was handed in, nor that with it.
func TestAnswered(t *testing.T) {
	for what, call := range calls() {
		for _, l := range handed() {
			want := toldLists(call(l))
			in := roomyEntries(l)
			is := call(in)
			spoil(in)
			if s := toldLists(is); s != want {
				t.Errorf("%s of %s turns with what was handed in: %s; was %s", what, told(l), s, want)
			}
			in = roomyEntries(l)
			was := all(in)
			for _, list := range call(in) {
				spoil(list)
			}
			if s := all(in); s != was {
				t.Errorf("%s of %s turns what was handed in: %s; was %s", what, told(l), s, was)
			}
			if s := toldLists(call(in)); s != want {
				t.Errorf("%s of %s, once more: %s; was %s", what, told(l), s, want)
			}
		}
	}
}

// R3: no two lists of one answer, no two entries and no two of their bytes share any memory.
func TestApart(t *testing.T) {
	for what, call := range calls() {
		for _, l := range handed() {
			shared := slices.Clone(l)
			for i := range shared { // all of them of one memory, as far as they may be
				shared[i].Key, shared[i].Value = sample(64)[:1], nil
			}
			for i := 1; i < len(shared); i++ {
				shared[i].Key, shared[i].Value = shared[0].Key, shared[0].Key
			}
			for _, in := range [][]api.Entry{l, shared} {
				want := call(in)
				for i, list := range want {
					is := call(in)
					spoil(is[i])
					if !listsAlike(is[:i], want[:i]) || !listsAlike(is[i+1:], want[i+1:]) {
						t.Errorf("%s of %s: the piece %d turns others: %s", what, told(in), i, toldLists(is))
					}
					for j := range list {
						is := call(in)
						spoil(is[i][j : j+1 : j+1])
						if !allAlike(is[i][:j], list[:j]) || !allAlike(is[i][j+1:], list[j+1:]) {
							t.Errorf("%s of %s: the entry %d turns others: %s", what, told(in), j, told(is[i]))
						}
						is = call(in)
						turn(is[i][j].Key)
						if !bytes.Equal(is[i][j].Value, list[j].Value) {
							t.Errorf("%s of %s: a key turns its value: %s", what, told(in), told(is[i]))
						}
					}
				}
			}
		}
	}
}

// What is appended to a piece turns no other one.
func TestAppend(t *testing.T) {
	l := list("a2 a1 b2 b1 c2 c1 d1 e1")
	for most := range 9 {
		want := wantSplit(l, most)
		for i := range want {
			is := Split(l, most)
			is[i] = append(is[i], list("x1 y1 z1")...)
			if !listsAlike(is[:i], want[:i]) || !listsAlike(is[i+1:], want[i+1:]) {
				t.Errorf("Split(%s, %d): %s", told(l), most, toldLists(is))
			}
		}
	}
}

// Ways: a row of any type is gone through from its beginning on, whatever is taken.
func TestRow(t *testing.T) {
	numbers := &row[int]{[]int{9, 7, 7, 4, 1}}
	if l := numbers.until(func(n int) bool { return n < 10 }); len(l) != 0 || !numbers.more() {
		t.Error(l)
	}
	if l := numbers.until(func(n int) bool { return n < 7 }); !slices.Equal(l, []int{9, 7, 7}) {
		t.Error(l)
	}
	if l := numbers.take(1); !slices.Equal(l, []int{4}) || !numbers.more() {
		t.Error(l)
	}
	if l := numbers.until(func(int) bool { return false }); !slices.Equal(l, []int{1}) || numbers.more() {
		t.Error(l)
	}
	if l := numbers.until(func(int) bool { return true }); len(l) != 0 {
		t.Error(l)
	}
	texts := parts([]string{"a", "ab", "abc", "b", "c", "cd"}, func(a, b string) bool { return strings.HasPrefix(b, a) })
	if s := fmt.Sprint(texts); s != "[[a ab abc] [b] [c cd]]" {
		t.Error(s)
	}
	if l := parts(nil, func(a, b string) bool { return true }); len(l) != 0 {
		t.Error(l)
	}
}

// Ways: what comes next is chosen among any number of rows.
func TestNext(t *testing.T) {
	rows := []*row[api.Entry]{{}, {list("b1 c1")}, {list("a1=x")}, {}, {list("a1=y")}, {list("a2")}}
	var is []api.Entry
	for r := next(rows...); r != nil; r = next(rows...) {
		is = append(is, r.take(1)...)
	}
	if want := list("a2 a1=x a1=y b1 c1"); !allAlike(is, want) {
		t.Error(told(is))
	}
	if next() != nil || next(&row[api.Entry]{}) != nil {
		t.Error("a row without entries is chosen")
	}
}

// Ways: copies are of any number of entries, and keep nil bytes nil.
func TestCopies(t *testing.T) {
	l := []api.Entry{{}, {Key: []byte("k"), Seq: 7, Gone: true}, {Key: []byte{}, Value: []byte("v")}}
	for n := range l {
		if is := copies(l[:n]...); !allAlike(is, l[:n]) {
			t.Error(told(is))
		}
	}
	if is := copies(l[0]); is[0].Key != nil || is[0].Value != nil {
		t.Error(is)
	}
}

// Calls at once, of the same lists, answer as calls one by one.
func TestAtOnce(t *testing.T) {
	l := list("a9 a7! a5 b8! b3 c6 c4! d1")
	other := list("a8=x a7=x c6=x b1 a1")
	pins := []int{6, 3, 8}
	var wg sync.WaitGroup
	for range 8 {
		wg.Go(func() {
			for n := range 100 {
				judged(t, l, n%10, pins, n%9)
				judged(t, other, n%10, pins, n%9)
				merges(t, [][]api.Entry{l, other}, list("a9 a8=x a7! a5 a1 b8! b3 b1 c6 c4! d1"))
			}
		})
	}
	wg.Wait()
}

// FuzzMerge holds all calls at whatever lists bytes tell against the chapter's words, and what follows of them.
func FuzzMerge(f *testing.F) {
	f.Add([]byte("a1b2c3"), []byte{3}, 4, 2)
	f.Add([]byte{0, 5, 0, 3, 0, 129, 128, 4}, []byte{}, -1, 0)
	f.Add(bytes.Repeat([]byte("az"), 70), []byte{9, 7, 7, 200}, 60, -1)
	f.Fuzz(func(t *testing.T, b, at []byte, seq, most int) {
		if len(b) > 300 || len(at) > 30 {
			return
		}
		lists := make([][]api.Entry, 4)
		for i := 0; i+1 < len(b); i += 2 {
			to := b[i] >> 6
			lists[to] = append(lists[to], api.Entry{Key: bytes.Repeat([]byte{b[i] >> 3 & 3}, int(b[i]&3)), Seq: int(int8(b[i+1])) >> 1, Gone: b[i+1]&1 == 1, Value: []byte{byte(i)}})
		}
		var pins []int
		for _, pin := range at {
			pins = append(pins, int(int8(pin)))
		}
		merges(t, lists, wantMerge(lists))
		judged(t, slices.Concat(lists...), seq, pins, most)
		l := Merge(lists)
		judged(t, l, seq, pins, most)
		seenAlike(t, l, pins, false)
		seenAlike(t, l, pins, true)
	})
}
