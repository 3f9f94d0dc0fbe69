package bloom

import (
	"bytes"
	"fmt"
	"hash/crc32"
	"math/big"
	"slices"
	"sync"
	"testing"
)

// sample is n bytes that aren't alike.
func sample(n int) []byte {
	b := make([]byte, n)
	x := uint32(n)*2654435761 + 1
	for i := range b {
		x = x*1664525 + 1013904223
		b[i] = byte(x >> 24)
	}
	return b
}

// letters are the keys a, b, c and so on.
func letters(n int) [][]byte {
	var out [][]byte
	for i := range n {
		out = append(out, []byte{byte('a' + i)})
	}
	return out
}

// named are n keys, no two of them alike.
func named(what string, n int) [][]byte {
	var out [][]byte
	for i := range n {
		out = append(out, fmt.Appendf(nil, "%s %d", what, i))
	}
	return out
}

// oddKeys are keys of no bytes, of any bytes and of many.
func oddKeys() [][]byte {
	out := [][]byte{nil, {}, {0, 0}, {0, 1}, {1, 0}, {1, 1}, {255, 255}, []byte("a\x00b"), make([]byte, 64), bytes.Repeat([]byte{255}, 64)}
	for x := range 256 {
		out = append(out, []byte{byte(x)})
	}
	for _, n := range []int{2, 7, 8, 9, 31, 32, 33, 63, 64, 65, 100, 1024, 5000, 100000} {
		out = append(out, sample(n))
	}
	return out
}

// wantPlaces are a key's places as the chapter has them, by numbers without bounds and Go's own sum.
func wantPlaces(key []byte, bits uint64) []uint64 {
	h := big.NewInt(int64(crc32.ChecksumIEEE(key)))
	s := big.NewInt(int64(crc32.ChecksumIEEE(append(bytes.Clone(key), 1))))
	s.SetBit(s, 0, 1)
	var out []uint64
	for i := range int64(6) {
		p := new(big.Int).Mul(big.NewInt(i), s)
		p.Add(p, h)
		p.Mod(p, big.NewInt(1<<32))
		p.Mod(p, new(big.Int).SetUint64(bits))
		out = append(out, p.Uint64())
	}
	return out
}

// wantBuild is the filter that the chapter asks for.
func wantBuild(keys [][]byte) []byte {
	size := 8
	for size*8 < 10*len(keys) {
		size++
	}
	out := make([]byte, size)
	for _, k := range keys {
		for _, p := range wantPlaces(k, uint64(size)*8) {
			out[p/8] |= 1 << (p % 8)
		}
	}
	return out
}

// wantHas is what the chapter has Has answer.
func wantHas(filter, key []byte) bool {
	if len(filter) == 0 {
		return true
	}
	for _, p := range wantPlaces(key, uint64(len(filter))*8) {
		if filter[p/8]&(1<<(p%8)) == 0 {
			return false
		}
	}
	return true
}

// short tells bytes, many of them by their number.
func short(b []byte) string { return fmt.Sprintf("%.20q of %d bytes", b, len(b)) }

// builds fails, unless the filter of keys is that.
func builds(t *testing.T, what string, keys [][]byte, want []byte) {
	t.Helper()
	if got := Build(keys); !bytes.Equal(got, want) {
		t.Errorf("Build of %s: % X; not % X", what, got, want)
	}
}

// has fails, unless Has answers that.
func has(t *testing.T, filter, key []byte, want bool) {
	t.Helper()
	if got := Has(filter, key); got != want {
		t.Errorf("Has(% .20X of %d bytes, %s): %v", filter, len(filter), short(key), got)
	}
}

// within: is each bit of one filter also one of another?
func within(few, many []byte) bool {
	if len(few) != len(many) {
		return false
	}
	for i := range few {
		if few[i]&^many[i] != 0 {
			return false
		}
	}
	return true
}

// Example 1.
func TestExample(t *testing.T) {
	for _, none := range [][][]byte{nil, {}, make([][]byte, 0, 7)} {
		builds(t, "no keys", none, make([]byte, 8))
		for _, k := range append(oddKeys(), named("key", 500)...) {
			has(t, Build(none), k, false)
		}
	}
}

// P7.1: ten bits a key, eight bytes at least; counts at which a byte is just used up, or one more is needed.
func TestSizeKnown(t *testing.T) {
	for _, x := range []struct{ keys, size int }{
		{0, 8}, {1, 8}, {2, 8}, {5, 8}, {6, 8}, {7, 9}, {8, 10}, {9, 12}, {10, 13}, {11, 14}, {12, 15}, {13, 17},
		{16, 20}, {17, 22}, {63, 79}, {64, 80}, {65, 82}, {99, 124}, {100, 125}, {101, 127}, {1000, 1250}, {1001, 1252}, {4003, 5004},
	} {
		if got := len(Build(named("key", x.keys))); got != x.size {
			t.Errorf("%d keys: %d bytes, not %d", x.keys, got, x.size)
		}
	}
}

// P7.1: as many bytes as are needed, and none more.
func TestSize(t *testing.T) {
	for n := range 700 {
		size := len(Build(make([][]byte, n)))
		if size < 8 || size*8 < 10*n || size > 8 && (size-1)*8 >= 10*n {
			t.Errorf("%d keys: %d bytes", n, size)
		}
	}
}

// P7.1: filters of one key, their places reckoned by hand from sums that are known.
func TestBuildOneByHand(t *testing.T) {
	for _, x := range []struct {
		key    string
		filter []byte
	}{
		// sums 00000000 and A505DF1B: places 0, 27, 54, 17, 44, 7
		{"", []byte{0x81, 0x00, 0x02, 0x08, 0x00, 0x10, 0x40, 0x00}},
		// D202EF8D, 36DE2269: 13, 54, 31, 8, 49, 26
		{"\x00", []byte{0x00, 0x21, 0x00, 0x84, 0x00, 0x00, 0x42, 0x00}},
		// A505DF1B, 2FC51328, which is even, so that the step is 2FC51329: 27, 4, 45, 22, 63, 40
		{"\x01", []byte{0x10, 0x00, 0x40, 0x08, 0x00, 0x21, 0x00, 0x80}},
		// E8B7BE43, 4A38788F: 3, 18, 33, 48, 63, 14
		{"a", []byte{0x08, 0x40, 0x04, 0x00, 0x02, 0x00, 0x01, 0x80}},
		// 71BEEFF9, 61152B4C, even: 57, 6, 19, 32, 45, 58
		{"b", []byte{0x40, 0x00, 0x08, 0x00, 0x01, 0x20, 0x00, 0x06}},
		// 352441C2, D05A58C6, even: 2, 9, 16, 23, 30, 37
		{"abc", []byte{0x04, 0x02, 0x81, 0x40, 0x20, 0x00, 0x00, 0x00}},
		// CBF43926, 77C3AEDF: 38, 5, 36, 3, 34, 1
		{"123456789", []byte{0x2A, 0x00, 0x00, 0x00, 0x54, 0x00, 0x00, 0x00}},
	} {
		builds(t, short([]byte(x.key)), [][]byte{[]byte(x.key)}, x.filter)
	}
}

// P7.1: filters of several keys; of seven there are 72 bits, which do not divide 2^32, so that where a sum wraps round is seen.
func TestBuildManyByHand(t *testing.T) {
	builds(t, "six letters", letters(6), []byte{0x58, 0x72, 0xCE, 0x04, 0x2F, 0xA2, 0x05, 0x9F})
	builds(t, "seven letters", letters(7), []byte{0x1D, 0x90, 0xD0, 0x0F, 0x49, 0x62, 0xE6, 0xAB, 0x0F})
	// the key of no bytes among 72 bits: 0, 3, 38, 41, 4, 39
	builds(t, "seven keys of no bytes", make([][]byte, 7), []byte{0x19, 0x00, 0x00, 0x00, 0xC0, 0x02, 0x00, 0x00, 0x00})
}

// P7.1: all bits of all keys' places, and no others, at many counts and keys.
func TestBuild(t *testing.T) {
	for n := range 150 {
		builds(t, fmt.Sprint(n, " letters"), letters(n), wantBuild(letters(n)))
		keys := named("key", n)
		builds(t, fmt.Sprint(n, " keys"), keys, wantBuild(keys))
	}
	keys := named("tree", 5000)
	builds(t, "5000 keys", keys, wantBuild(keys))
	odd := oddKeys()
	builds(t, "odd keys", odd, wantBuild(odd))
	for _, k := range odd {
		builds(t, short(k), [][]byte{k}, wantBuild([][]byte{k}))
	}
}

// P7.1: a key of no bytes is one, nil or not; no keys are none.
func TestBuildNilKeys(t *testing.T) {
	builds(t, "a nil key", [][]byte{nil}, Build([][]byte{{}}))
	if bytes.Equal(Build([][]byte{nil}), Build(nil)) {
		t.Error("a key of no bytes has no places")
	}
	builds(t, "nil keys among others", [][]byte{nil, []byte("a"), {}}, wantBuild([][]byte{{}, []byte("a"), {}}))
}

// P7.1: the same key twice has its bits twice, in a filter of as many bytes as for two keys.
func TestBuildTwice(t *testing.T) {
	a, b := []byte("a"), []byte("b")
	builds(t, "a twice", [][]byte{a, a}, Build([][]byte{a}))
	builds(t, "a six times", slices.Repeat([][]byte{a}, 6), Build([][]byte{a}))
	if got := Build(slices.Repeat([][]byte{a}, 7)); len(got) != 9 || !bytes.Equal(got, wantBuild(slices.Repeat([][]byte{a}, 7))) {
		t.Errorf("a seven times: % X", got)
	}
	builds(t, "a, b, a", [][]byte{a, b, a}, Build([][]byte{b, a, b}))
}

// P7.1: the order of keys turns nothing.
func TestBuildOrder(t *testing.T) {
	for _, keys := range [][][]byte{letters(2), letters(6), letters(7), named("key", 64), oddKeys()} {
		want := Build(keys)
		back := slices.Clone(keys)
		slices.Reverse(back)
		builds(t, "keys from the last one", back, want)
		for i := range min(len(keys), 20) {
			builds(t, "keys turned round", append(slices.Clone(keys[i:]), keys[:i]...), want)
		}
	}
}

// The places themselves, also of more bits than a sum has values, in filters too long to be made here.
func TestPlaces(t *testing.T) {
	known := []uint64{3904355907, 854603474, 2099818337, 3345033200, 295280767, 1540495630}
	if got := slices.Collect(places([]byte("a"), 1<<34-8)); !slices.Equal(got, known) {
		t.Error(got)
	}
	for _, bits := range []uint64{8, 16, 24, 64, 72, 80, 96, 1000, 1<<31 - 8, 1 << 31, 1<<32 - 8, 1 << 32, 1<<32 + 8, 1 << 33, 1<<34 - 8} {
		for _, k := range append(oddKeys(), named("key", 50)...) {
			if got, want := slices.Collect(places(k, bits)), wantPlaces(k, bits); !slices.Equal(got, want) {
				t.Errorf("places of %s in %d bits: %v; not %v", short(k), bits, got, want)
			}
		}
	}
	if got := slices.Collect(places([]byte("a"), 0)); len(got) != 0 {
		t.Error(got)
	}
}

// The places end where they are no longer asked for.
func TestPlacesLeft(t *testing.T) {
	for most := 1; most <= 7; most++ {
		asked := 0
		for range places([]byte("a"), 64) {
			if asked++; asked == most {
				break
			}
		}
		if asked != min(most, 6) {
			t.Errorf("%d asked for, %d told", most, asked)
		}
	}
}

// P7.2: a filter of no bytes has every key.
func TestHasNoBytes(t *testing.T) {
	for _, k := range append(oddKeys(), named("key", 100)...) {
		has(t, nil, k, true)
		has(t, []byte{}, k, true)
		has(t, make([]byte, 0, 9), k, true)
	}
}

// P7.2: noughts alone have no key, 255s alone have each, whatever the length.
func TestHasAllAlike(t *testing.T) {
	for _, n := range []int{1, 2, 3, 7, 8, 9, 10, 11, 12, 13, 100, 125, 5000} {
		for _, k := range append(oddKeys(), named("key", 100)...) {
			has(t, make([]byte, n), k, false)
			has(t, bytes.Repeat([]byte{255}, n), k, true)
		}
	}
}

// P7.2: a key is there just if all bits of its places are set: each of them is needed, and none beside.
func TestHasEachPlace(t *testing.T) {
	for _, size := range []int{1, 2, 3, 8, 9, 11, 100, 1250} {
		for _, k := range append(named("key", 20), nil, []byte("a"), []byte("b"), sample(64)) {
			bits := wantPlaces(k, uint64(size)*8)
			least := make([]byte, size)
			for _, p := range bits {
				least[p/8] |= 1 << (p % 8)
			}
			has(t, least, k, true)
			for p := range uint64(size) * 8 {
				needed := slices.Contains(bits, p)
				most := bytes.Repeat([]byte{255}, size)
				most[p/8] &^= 1 << (p % 8)
				has(t, most, k, !needed)
				least[p/8] ^= 1 << (p % 8)
				has(t, least, k, !needed)
				least[p/8] ^= 1 << (p % 8)
			}
		}
	}
}

// P7.2: one byte; all of its 256 values.
func TestHasOneByte(t *testing.T) {
	for x := range 256 {
		// the places of a among 8 bits are 3, 2, 1, 0, 7, 6, those of the key of no bytes 0, 3, 6, 1, 4, 7
		has(t, []byte{byte(x)}, []byte("a"), x&0xCF == 0xCF)
		has(t, []byte{byte(x)}, nil, x&0xDB == 0xDB)
		for _, k := range named("key", 30) {
			has(t, []byte{byte(x)}, k, wantHas([]byte{byte(x)}, k))
		}
	}
}

// P7.2: filters of any bytes and of each length, also such as Build never answers.
func TestHasAnyFilter(t *testing.T) {
	yes := 0
	for n := range 200 {
		filter := sample(n)
		for i, x := range sample(n + 1)[:n] {
			filter[i] |= x | byte(n)
		}
		for _, k := range append(named("key", 40), nil, []byte("a")) {
			want := wantHas(filter, k)
			has(t, filter, k, want)
			if want {
				yes++
			}
		}
	}
	if yes < 100 || yes > 8000 {
		t.Error("the filters tell little apart", yes)
	}
}

// P7.2: a filter that is one byte longer or shorter is another one.
func TestHasOtherLength(t *testing.T) {
	keys := named("key", 64)
	f := Build(keys)
	for _, other := range [][]byte{f[:len(f)-1], f[1:], append(bytes.Clone(f), 0), append([]byte{0}, f...), f[:8], f[:1]} {
		lost := 0
		for _, k := range keys {
			want := wantHas(other, k)
			has(t, other, k, want)
			if !want {
				lost++
			}
		}
		if lost == 0 {
			t.Errorf("%d bytes have all keys of %d bytes", len(other), len(f))
		}
	}
}

// P7.3: each key that a filter was built of it has.
func TestHasItsKeys(t *testing.T) {
	for n := range 200 {
		keys := named("key", n)
		f := Build(keys)
		for _, k := range keys {
			has(t, f, k, true)
			has(t, f, bytes.Clone(k), true)
		}
	}
	for _, keys := range [][][]byte{oddKeys(), named("tree", 5000), {nil}, {nil, {}, nil}, {sample(100000)}} {
		f := Build(keys)
		for _, k := range keys {
			has(t, f, k, true)
		}
	}
}

// Of most keys that it was not built of a filter says that they are not there.
func TestFew(t *testing.T) {
	for _, n := range []int{1, 6, 7, 64, 100, 1000} {
		f := Build(named("key", n))
		wrong := 0
		for _, k := range named("another", 2000) {
			if Has(f, k) {
				wrong++
			}
		}
		if wrong > 100 {
			t.Errorf("of %d keys: %d of 2000 others", n, wrong)
		}
	}
}

// P7.3: with more keys, and as many bytes, nothing is denied that was there: all choices of six keys, each with each greater one.
func TestMoreKeys(t *testing.T) {
	for _, keys := range [][][]byte{letters(6), named("key", 6), {nil, {0}, {1}, []byte("a"), sample(64), sample(5000)}} {
		probes := append(named("probe", 60), oddKeys()[:60]...)
		var filters [64][]byte
		for choice := range filters {
			var chosen [][]byte
			for i, k := range keys {
				if choice>>i&1 == 1 {
					chosen = append(chosen, k)
				}
			}
			filters[choice] = Build(chosen)
		}
		for few, f := range filters {
			for many, g := range filters {
				if few&^many == 0 && !within(f, g) {
					t.Errorf("choice %d is not within %d: % X, % X", few, many, f, g)
				}
			}
			for _, k := range probes {
				if Has(f, k) {
					has(t, filters[63], k, true)
				}
			}
		}
	}
}

// P7.3: whatever the filter, a bit more denies nothing.
func TestMoreBits(t *testing.T) {
	for _, n := range []int{1, 6, 7, 20} {
		keys := named("key", n)
		f := Build(keys)
		for p := range len(f) * 8 {
			f[p/8] |= 1 << (p % 8)
			for _, k := range keys {
				has(t, f, k, true)
			}
		}
	}
}

// R1: no call panics.
func TestNil(t *testing.T) {
	builds(t, "nil", nil, make([]byte, 8))
	if got := Build(make([][]byte, 100)); len(got) != 125 {
		t.Error(len(got))
	}
	has(t, nil, nil, true)
	has(t, []byte{}, nil, true)
	has(t, make([]byte, 8), nil, false)
	has(t, Build([][]byte{nil}), nil, true)
	has(t, Build([][]byte{nil}), []byte{}, true)
}

// roomy is b with room behind it, and a look at whether it or that room was written to.
func roomy(b []byte) ([]byte, func() bool) {
	whole := append(bytes.Clone(b), bytes.Repeat([]byte{0xA5}, 40)...)
	was := bytes.Clone(whole)
	return whole[:len(b)], func() bool { return bytes.Equal(whole, was) }
}

// R3: what is handed in is as it was, and so is the room behind it, into which the byte behind a key might be laid.
func TestArgumentsKept(t *testing.T) {
	for _, n := range []int{0, 1, 7, 8, 64} {
		key, keySame := roomy(sample(n))
		other, otherSame := roomy([]byte("another"))
		third := []byte("third")
		room := [][]byte{key, other, third}
		keys := room[:2]
		f := Build(keys)
		if !bytes.Equal(keys[0], sample(n)) || string(keys[1]) != "another" || string(room[2]) != "third" {
			t.Error("the list of keys was written to")
		}
		if !keySame() || !otherSame() || string(third) != "third" {
			t.Error("Build has written to a key")
		}
		for _, filter := range [][]byte{f, nil, sample(5), bytes.Repeat([]byte{255}, 9)} {
			with, filterSame := roomy(filter)
			Has(with, key)
			if !filterSame() || !keySame() {
				t.Error("Has has written to an argument")
			}
		}
	}
}

// R3: keys that lie in one row of bytes, each behind the other, are kept apart.
func TestKeysInOneRow(t *testing.T) {
	row := []byte("abcdef")
	var keys [][]byte
	for i := range row {
		keys = append(keys, row[i:i+1])
	}
	builds(t, "six letters in a row", keys, Build(letters(6)))
	if string(row) != "abcdef" {
		t.Errorf("%q", row)
	}
	f := Build(keys)
	for i := range row {
		has(t, f, row[i:i+1], true)
	}
	if string(row) != "abcdef" {
		t.Errorf("%q", row)
	}
}

// R3: what is answered is new memory, kept by nobody.
func TestAnswersAreApart(t *testing.T) {
	for _, keys := range [][][]byte{nil, {[]byte("12345678")}, letters(7), {make([]byte, 8), bytes.Repeat([]byte{255}, 8)}} {
		want := wantBuild(keys)
		first, second := Build(keys), Build(keys)
		was := fmt.Sprint(keys)
		first = first[:cap(first)]
		for i := range first {
			first[i] ^= 0xFF
		}
		if !bytes.Equal(second, want) || fmt.Sprint(keys) != was {
			t.Error("an answer shares memory")
		}
		builds(t, "the same keys again", keys, want)
		for _, k := range keys {
			clear(k)
		}
		if !bytes.Equal(second, want) {
			t.Error("an answer shares a key's memory")
		}
	}
}

// Nothing is kept: calls at once answer as calls one by one.
func TestAtOnce(t *testing.T) {
	keys := named("key", 64)
	want := wantBuild(keys)
	var all sync.WaitGroup
	for range 8 {
		all.Go(func() {
			for i := range 50 {
				if f := Build(keys); !bytes.Equal(f, want) || !Has(want, keys[i]) || Has(make([]byte, 8), keys[i]) {
					t.Error(i)
				}
			}
		})
	}
	all.Wait()
}

// Whatever the keys and the filter, the answers are the chapter's.
func FuzzBloom(f *testing.F) {
	f.Add([]byte("a\nb\nc\nd\ne\nf\ng"), []byte{255}, []byte("a"))
	f.Add([]byte{}, []byte{}, []byte{})
	f.Add(sample(300), bytes.Repeat([]byte{255}, 9), sample(64))
	f.Fuzz(func(t *testing.T, text, filter, key []byte) {
		keys := bytes.Split(text, []byte("\n"))
		built := Build(keys)
		if !bytes.Equal(built, wantBuild(keys)) {
			t.Errorf("% X", built)
		}
		for _, k := range keys {
			has(t, built, k, true)
		}
		has(t, built, key, wantHas(built, key))
		has(t, filter, key, wantHas(filter, key))
	})
}
