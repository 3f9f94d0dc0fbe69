package key

import (
	"bytes"
	"encoding/binary"
	"errors"
	"math"
	"slices"
	"strings"
	"sync"
	"testing"

	"sawyer/api"
)

// sample is n bytes that aren't alike.
func sample(n int) []byte {
	b := make([]byte, n)
	x := uint32(n)*2654435761 + 1
	for i := range b {
		x = x*1664525 + 1013904223
		b[i] = byte(x >> 24)
	}
	return b
}

// trees are numbers that Make and Num take, around each bit and at both ends.
func trees() []int {
	out := []int{0, 1, 258}
	for k := 1; k < 40; k++ {
		out = append(out, 1<<k-1, 1<<k, 1<<k+1)
	}
	out = append(out, 1<<40-1, 1<<40)
	slices.Sort(out)
	return slices.Compact(out)
}

// wrongNums are numbers that neither Make nor Num takes.
func wrongNums() []int {
	return []int{-1, -2, -258, math.MinInt, 1<<40 + 1, 1<<41 - 1, 1 << 41, 1 << 48, 1 << 62, math.MaxInt}
}

func wrongTables() []int {
	return []int{-1, -256, math.MinInt, 256, 257, 511, 512, 1 << 32, math.MaxInt}
}

// rests are what may stand behind a key's table, up to 55 bytes.
func rests() [][]byte {
	out := [][]byte{nil, {}, {0}, {255}, {0, 0}, {255, 255}, {0, 255}, {255, 0}}
	for _, n := range []int{1, 2, 8, 31, 32, 54, 55} {
		out = append(out, sample(n), make([]byte, n), bytes.Repeat([]byte{255}, n))
	}
	return out
}

// texts are all rows of up to four bytes out of a few: those at both ends, and ones between.
func texts() [][]byte {
	out := [][]byte{{}}
	last := out
	for range 4 {
		var longer [][]byte
		for _, b := range last {
			for _, x := range []byte{0, 97, 254, 255} {
				longer = append(longer, append(bytes.Clone(b), x))
			}
		}
		out = append(out, longer...)
		last = longer
	}
	return out
}

// fix is a number in eight bytes, as Go's own library lays it.
func fix(n int) []byte { return binary.BigEndian.AppendUint64(nil, uint64(n)) }

// laid is the key as the chapter says it.
func laid(tree, table int, rest []byte) []byte {
	return slices.Concat(fix(tree), []byte{byte(table)}, rest)
}

// before goes byte by byte, as the chapter says it.
func before(a, b []byte) bool {
	for i := range b {
		switch {
		case i == len(a):
			return true
		case a[i] != b[i]:
			return a[i] < b[i]
		}
	}
	return false
}

func mustMake(t *testing.T, tree, table int, rest []byte) []byte {
	t.Helper()
	k, e := Make(tree, table, rest)
	if e != api.OK {
		t.Fatalf("Make(%d, %d, %v): %v", tree, table, rest, e)
	}
	return k
}

func mustNum(t *testing.T, tree, table, n int) []byte {
	t.Helper()
	k, e := Num(tree, table, n)
	if e != api.OK {
		t.Fatalf("Num(%d, %d, %d): %v", tree, table, n, e)
	}
	return k
}

func refusedMake(tree, table int, rest []byte) bool {
	k, e := Make(tree, table, rest)
	return len(k) == 0 && e == api.ErrArg
}

func refusedNum(tree, table, n int) bool {
	k, e := Num(tree, table, n)
	return len(k) == 0 && e == api.ErrArg
}

func refusedSplit(key []byte) bool {
	tree, table, rest, e := Split(key)
	return tree == 0 && table == 0 && len(rest) == 0 && e == api.ErrCorrupt
}

func splitsInto(key []byte, tree, table int, rest []byte) bool {
	gotTree, gotTable, gotRest, e := Split(key)
	return gotTree == tree && gotTable == table && bytes.Equal(gotRest, rest) && e == api.OK
}

// roomy is b with room behind it, and a look at whether it or that room was written to.
func roomy(b []byte) ([]byte, func() bool) {
	whole := make([]byte, len(b)+40)
	copy(whole, b)
	for i := len(b); i < len(whole); i++ {
		whole[i] = 0xA5
	}
	was := bytes.Clone(whole)
	return whole[:len(b)], func() bool { return bytes.Equal(whole, was) }
}

// shares tells whether a turned byte of one is seen in the other.
func shares(a, b []byte) bool {
	was := bytes.Clone(b)
	for i := range a {
		a[i] ^= 0xFF
	}
	same := bytes.Equal(b, was)
	for i := range a {
		a[i] ^= 0xFF
	}
	return !same
}

// Example 1.
func TestExample(t *testing.T) {
	want := []byte{0, 0, 0, 0, 0, 0, 0, 1, 2, 0, 0, 0, 0, 0, 0, 1, 2}
	if k, e := Num(1, 2, 258); !bytes.Equal(k, want) || e != api.OK {
		t.Errorf("% X %v", k, e)
	}
	if n := Next([]byte{0x61, 0xFF}); !bytes.Equal(n, []byte{0x62}) {
		t.Errorf("% X", n)
	}
}

// P3.1: tree in eight bytes, table in one, rest.
func TestMake(t *testing.T) {
	for _, tree := range trees() {
		for _, table := range []int{0, 1, 127, 128, 254, 255} {
			for _, rest := range rests() {
				k, e := Make(tree, table, rest)
				if !bytes.Equal(k, laid(tree, table, rest)) || e != api.OK {
					t.Errorf("Make(%d, %d, %v): %v %v", tree, table, rest, k, e)
				}
			}
		}
	}
	for table := range 256 {
		if k := mustMake(t, 5, table, []byte("r")); !bytes.Equal(k, laid(5, table, []byte("r"))) {
			t.Errorf("table %d: %v", table, k)
		}
	}
}

// P3.1: known bytes at the ends.
func TestMakeKnown(t *testing.T) {
	for _, x := range []struct {
		tree, table int
		rest, want  string
	}{
		{0, 0, "", "\x00\x00\x00\x00\x00\x00\x00\x00\x00"},
		{0, 255, "", "\x00\x00\x00\x00\x00\x00\x00\x00\xff"},
		{1 << 40, 0, "", "\x00\x00\x01\x00\x00\x00\x00\x00\x00"},
		{1<<40 - 1, 7, "rest", "\x00\x00\x00\xff\xff\xff\xff\xff\x07rest"},
		{0x0102030405, 6, "\x00\xff", "\x00\x00\x00\x01\x02\x03\x04\x05\x06\x00\xff"},
	} {
		if k := mustMake(t, x.tree, x.table, []byte(x.rest)); string(k) != x.want {
			t.Errorf("Make(%d, %d, %q): %q", x.tree, x.table, x.rest, k)
		}
	}
}

// P3.1: a key of 64 bytes is made, one of more isn't.
func TestMakeLength(t *testing.T) {
	for n := range 56 {
		if k := mustMake(t, 1, 2, sample(n)); len(k) != 9+n {
			t.Errorf("a rest of %d bytes: %d", n, len(k))
		}
	}
	for _, n := range []int{56, 57, 63, 64, 65, 256, 311, 1 << 16} {
		if !refusedMake(1, 2, make([]byte, n)) {
			t.Errorf("a rest of %d bytes is taken", n)
		}
	}
}

// P3.1: a tree or a table out of range, alone and with others.
func TestMakeRefuses(t *testing.T) {
	for _, tree := range wrongNums() {
		for _, rest := range [][]byte{nil, []byte("rest"), make([]byte, 55), make([]byte, 56)} {
			if !refusedMake(tree, 0, rest) || !refusedMake(tree, 255, rest) || !refusedMake(tree, 256, rest) {
				t.Errorf("tree %d is taken", tree)
			}
		}
	}
	for _, table := range wrongTables() {
		for _, tree := range []int{0, 1, 1 << 40} {
			if !refusedMake(tree, table, nil) || !refusedMake(tree, table, make([]byte, 56)) {
				t.Errorf("table %d is taken", table)
			}
		}
	}
}

// P3.1: Num is Make with the number in eight bytes.
func TestNum(t *testing.T) {
	for _, n := range trees() {
		for _, tree := range []int{0, 1, 258, 1 << 40} {
			for _, table := range []int{0, 1, 255} {
				k, e := Num(tree, table, n)
				if !bytes.Equal(k, laid(tree, table, fix(n))) || e != api.OK {
					t.Errorf("Num(%d, %d, %d): %v %v", tree, table, n, k, e)
				}
				if !bytes.Equal(k, mustMake(t, tree, table, fix(n))) {
					t.Errorf("Num(%d, %d, %d) is not as Make: %v", tree, table, n, k)
				}
			}
		}
	}
}

// P3.1: Num refuses as Make, and a number out of range.
func TestNumRefuses(t *testing.T) {
	for _, n := range wrongNums() {
		if !refusedNum(0, 0, n) || !refusedNum(1<<40, 255, n) || !refusedNum(-1, 256, n) {
			t.Errorf("number %d is taken", n)
		}
		if !refusedNum(n, 0, 0) || !refusedNum(n, 255, 1<<40) {
			t.Errorf("tree %d is taken", n)
		}
	}
	for _, table := range wrongTables() {
		if !refusedNum(0, table, 0) || !refusedNum(1<<40, table, 1<<40) {
			t.Errorf("table %d is taken", table)
		}
	}
}

// P3.2, P3.4: Split of Make is what was made.
func TestSplit(t *testing.T) {
	for _, tree := range trees() {
		for _, table := range []int{0, 1, 127, 128, 254, 255} {
			for _, rest := range rests() {
				if !splitsInto(mustMake(t, tree, table, rest), tree, table, rest) {
					t.Errorf("Split of Make(%d, %d, %v)", tree, table, rest)
				}
			}
		}
		if !splitsInto(mustNum(t, 3, 4, tree), 3, 4, fix(tree)) {
			t.Errorf("Split of Num(3, 4, %d)", tree)
		}
	}
}

// P3.2: bytes that Make answers are split, whoever laid them.
func TestSplitLaid(t *testing.T) {
	for _, x := range []struct {
		key         string
		tree, table int
		rest        string
	}{
		{"\x00\x00\x00\x00\x00\x00\x00\x00\x00", 0, 0, ""},
		{"\x00\x00\x01\x00\x00\x00\x00\x00\xff", 1 << 40, 255, ""},
		{"\x00\x00\x00\xff\xff\xff\xff\xff\x80rest", 1<<40 - 1, 128, "rest"},
		{"\x00\x00\x00\x01\x02\x03\x04\x05\x06\x07", 0x0102030405, 6, "\x07"},
	} {
		if !splitsInto([]byte(x.key), x.tree, x.table, []byte(x.rest)) {
			t.Errorf("Split of %q", x.key)
		}
	}
}

// P3.2: too short, too long, or a tree above 2^40.
func TestSplitRefuses(t *testing.T) {
	for n := range 9 {
		if !refusedSplit(make([]byte, n)) || !refusedSplit(bytes.Repeat([]byte{255}, n)) {
			t.Errorf("%d bytes are split", n)
		}
	}
	for _, n := range []int{65, 66, 128, 256 + 64, 5000} {
		if !refusedSplit(make([]byte, n)) || !refusedSplit(append(mustMake(t, 1, 2, nil), make([]byte, n-9)...)) {
			t.Errorf("%d bytes are split", n)
		}
	}
	for _, tree := range []uint64{1<<40 + 1, 1<<40 + 255, 1 << 41, 1 << 48, 1 << 56, 1 << 62, 1<<63 - 1, 1 << 63, 1<<63 + 1, 1<<63 + 1<<40, math.MaxUint64} {
		b := append(binary.BigEndian.AppendUint64(nil, tree), 0)
		if !refusedSplit(b) || !refusedSplit(append(b, "rest"...)) || !refusedSplit(append(b, make([]byte, 56)...)) {
			t.Errorf("tree %d is split", tree)
		}
	}
}

// P3.2: a key that is cut off within its head is none; one with bytes behind it has them in its rest, up to 64.
func TestSplitCut(t *testing.T) {
	k := mustMake(t, 1<<40, 255, sample(55))
	for n := range k {
		if n < 9 && !refusedSplit(k[:n]) {
			t.Errorf("cut to %d bytes it is split", n)
		}
		if n >= 9 && !splitsInto(k[:n], 1<<40, 255, k[9:n]) {
			t.Errorf("cut to %d bytes it is not split", n)
		}
	}
	if !splitsInto(k, 1<<40, 255, k[9:]) || !refusedSplit(append(k, 0)) {
		t.Error("64 bytes, or 65")
	}
}

// P3.2: the way a key was not made leads to one error, asked by errors.Is.
func TestFaults(t *testing.T) {
	seen := map[string]bool{}
	for _, err := range []error{check(-1, 0, 0), check(0, 256, 0), check(0, 0, 56)} {
		if !errors.Is(err, errNotMade) {
			t.Errorf("%v", err)
			continue
		}
		seen[err.Error()] = true
	}
	if len(seen) != 3 {
		t.Errorf("faults are told alike: %v", seen)
	}
	if err := check(1<<40, 255, 55); err != nil {
		t.Error(err)
	}
	for _, b := range [][]byte{nil, make([]byte, 8), make([]byte, 65), bytes.Repeat([]byte{255}, 9)} {
		if _, _, _, err := parts(b); !errors.Is(err, errNotMade) {
			t.Errorf("%v: %v", b, err)
		}
	}
}

// P3.3: known answers.
func TestLess(t *testing.T) {
	for _, x := range []struct {
		a, b string
		want bool
	}{
		{"", "", false},
		{"", "\x00", true},
		{"\x00", "", false},
		{"a", "a", false},
		{"a", "ab", true},
		{"ab", "a", false},
		{"a", "a\x00", true},
		{"a\x00", "a", false},
		{"b", "ab", false},
		{"ab", "b", true},
		{"a\xff\xff", "b", true},
		{"b", "a\xff\xff", false},
		{"\x7f", "\x80", true},
		{"\x80", "\x7f", false},
		{"\xff", "\x00", false},
		{"\xff", "\xff\x00", true},
		{"aaab", "aaac", true},
		{strings.Repeat("x", 100), strings.Repeat("x", 101), true},
	} {
		if Less([]byte(x.a), []byte(x.b)) != x.want {
			t.Errorf("Less(%q, %q): %v", x.a, x.b, !x.want)
		}
	}
}

// P3.3: each byte against each, alone and behind bytes that are alike.
func TestLessBytes(t *testing.T) {
	for x := range 256 {
		for y := range 256 {
			a, b := []byte{byte(x)}, []byte{byte(y)}
			if Less(a, b) != (x < y) || Less([]byte{7, byte(x), 9}, []byte{7, byte(y)}) != (x < y) {
				t.Fatalf("%d and %d", x, y)
			}
		}
	}
}

// P3.3: known answers.
func TestHas(t *testing.T) {
	for _, x := range []struct {
		key, prefix string
		want        bool
	}{
		{"", "", true},
		{"a", "", true},
		{"", "a", false},
		{"a", "a", true},
		{"ab", "a", true},
		{"a", "ab", false},
		{"ba", "a", false},
		{"abc", "ab", true},
		{"abc", "ac", false},
		{"abc", "bc", false},
		{"a\x00", "a", true},
		{"a", "a\x00", false},
		{"\xff\xff", "\xff", true},
		{"\xff", "\xff\xff", false},
	} {
		if Has([]byte(x.key), []byte(x.prefix)) != x.want {
			t.Errorf("Has(%q, %q): %v", x.key, x.prefix, !x.want)
		}
	}
}

// P3.3: bytes 255 at the end are left out; where no other is left, there is nothing.
func TestNext(t *testing.T) {
	for _, x := range []struct{ prefix, want string }{
		{"", ""},
		{"\xff", ""},
		{"\xff\xff", ""},
		{strings.Repeat("\xff", 100), ""},
		{"\x00", "\x01"},
		{"a", "b"},
		{"ab", "ac"},
		{"\xfe", "\xff"},
		{"\x7f", "\x80"},
		{"a\x00", "a\x01"},
		{"a\xfe", "a\xff"},
		{"a\xff", "b"},
		{"a\xff\xff\xff", "b"},
		{"\xff\x00", "\xff\x01"},
		{"\xff\xfe", "\xff\xff"},
		{"\xfe\xff", "\xff"},
		{"\xff\xfe\xff", "\xff\xff"},
		{"a\xffb\xff\xff", "a\xffc"},
		{strings.Repeat("x", 63) + "\xff", strings.Repeat("x", 62) + "y"},
	} {
		if got := Next([]byte(x.prefix)); string(got) != x.want {
			t.Errorf("Next(%q): %q", x.prefix, got)
		}
	}
}

// P3.3, P3.4: of all short texts Less is the order by bytes; of two one is less, or they are the same.
func TestOrder(t *testing.T) {
	all := texts()
	for _, a := range all {
		for _, b := range all {
			ab, ba := Less(a, b), Less(b, a)
			if ab != before(a, b) || ab != (string(a) < string(b)) {
				t.Fatalf("Less(%v, %v): %v", a, b, ab)
			}
			if same := bytes.Equal(a, b); ab && ba || same == (ab || ba) {
				t.Fatalf("%v and %v: %v %v", a, b, ab, ba)
			}
			if Has(a, b) != (len(a) >= len(b) && string(a[:len(b)]) == string(b)) {
				t.Fatalf("Has(%v, %v): %v", a, b, Has(a, b))
			}
		}
	}
}

// P3.4: of three keys, Less leads on.
func TestLessLeadsOn(t *testing.T) {
	var some [][]byte
	for _, b := range texts() {
		if len(b) <= 2 {
			some = append(some, b)
		}
	}
	for _, tree := range []int{0, 255, 256, 1 << 40} {
		some = append(some, mustMake(t, tree, 0, nil), mustMake(t, tree, 255, []byte{255}), mustNum(t, tree, 1, tree))
	}
	for _, a := range some {
		for _, b := range some {
			for _, c := range some {
				if Less(a, b) && Less(b, c) && !Less(a, c) {
					t.Fatalf("%v, %v, %v", a, b, c)
				}
			}
		}
	}
}

// P3.4: just what begins with a prefix is not less than it, and less than Next of it, if there is one.
func TestNextBounds(t *testing.T) {
	all := texts()
	for _, prefix := range all {
		next := Next(prefix)
		for _, k := range all {
			within := !Less(k, prefix) && (len(next) == 0 || Less(k, next))
			if within != Has(k, prefix) {
				t.Fatalf("prefix %v, Next %v, key %v: %v", prefix, next, k, within)
			}
		}
	}
}

// P3.3: nothing less than Next is above all that begin with the prefix: they come as near to it as one likes.
func TestNextIsLeast(t *testing.T) {
	for _, prefix := range texts() {
		next := Next(prefix)
		if len(next) == 0 {
			continue
		}
		for _, k := range texts() {
			near := append(bytes.Clone(prefix), bytes.Repeat([]byte{255}, 10)...)
			if Less(k, next) && !Less(k, near) {
				t.Fatalf("prefix %v, Next %v: %v is less", prefix, next, k)
			}
		}
	}
}

// P3.4: keys go by tree, then table, then rest.
func TestKeysGo(t *testing.T) {
	var keys [][]byte
	for _, tree := range []int{0, 1, 255, 256, 65535, 65536, 1<<40 - 1, 1 << 40} {
		for _, table := range []int{0, 1, 127, 128, 255} {
			for _, rest := range []string{"", "\x00", "\x00\xff", "\x01", "a", "ab", "b", "\xff", "\xff\xff"} {
				keys = append(keys, mustMake(t, tree, table, []byte(rest)))
			}
		}
	}
	for i, a := range keys {
		for k, b := range keys {
			if Less(a, b) != (i < k) {
				t.Fatalf("%v and %v", a, b)
			}
		}
	}
}

// P3.4: keys of numbers go by the number.
func TestNumsGo(t *testing.T) {
	for _, tree := range []int{0, 1 << 40} {
		var keys [][]byte
		for _, n := range trees() {
			keys = append(keys, mustNum(t, tree, 2, n))
		}
		for i, a := range keys {
			for k, b := range keys {
				if Less(a, b) != (i < k) {
					t.Fatalf("%v and %v", a, b)
				}
			}
		}
	}
}

// P3.4: a tree's, or a table's, keys lie between its prefix and Next of that, and no others do.
func TestTablesApart(t *testing.T) {
	for _, tree := range []int{0, 254, 255, 256, 1<<40 - 1, 1 << 40} {
		for _, table := range []int{0, 254, 255} {
			prefix := mustMake(t, tree, table, nil)
			next := Next(prefix)
			for _, otherTree := range []int{0, 254, 255, 256, 257, 1<<40 - 1, 1 << 40} {
				for _, otherTable := range []int{0, 1, 254, 255} {
					k := mustNum(t, otherTree, otherTable, 1<<40)
					own := otherTree == tree && otherTable == table
					if Has(k, prefix) != own || (!Less(k, prefix) && Less(k, next)) != own {
						t.Fatalf("%v in %v", k, prefix)
					}
				}
			}
		}
	}
}

// R1: arguments that are nil.
func TestNil(t *testing.T) {
	if k := mustMake(t, 0, 0, nil); !bytes.Equal(k, make([]byte, 9)) {
		t.Error("Make", k)
	}
	if !refusedSplit(nil) || !refusedMake(-1, -1, nil) {
		t.Error("Split, Make")
	}
	if Less(nil, nil) || !Less(nil, []byte{0}) || Less([]byte{0}, nil) || Less(nil, []byte{}) || Less([]byte{}, nil) {
		t.Error("Less")
	}
	if !Has(nil, nil) || !Has([]byte{0}, nil) || Has(nil, []byte{0}) || !Has(nil, []byte{}) || !Has([]byte{}, nil) {
		t.Error("Has")
	}
	if len(Next(nil)) != 0 || len(Next([]byte{})) != 0 {
		t.Error("Next")
	}
}

// R3: what is handed in stays as it was, with the room behind it, and no answer shares memory with it.
func TestKeepsApart(t *testing.T) {
	for _, x := range []struct {
		in   []byte
		call func(b []byte) []byte
		want []byte
	}{
		{[]byte("rest"), func(b []byte) []byte { k, _ := Make(1, 2, b); return k }, laid(1, 2, []byte("rest"))},
		{laid(1, 2, []byte("rest")), func(b []byte) []byte { _, _, rest, _ := Split(b); return rest }, []byte("rest")},
		{[]byte("a"), Next, []byte("b")},
		{[]byte("ab\xff\xff"), Next, []byte("ac")},
	} {
		b, same := roomy(x.in)
		got := x.call(b)
		if !bytes.Equal(got, x.want) {
			t.Fatalf("%v: %v", x.in, got)
		}
		if shares(got[:cap(got)], b[:cap(b)]) {
			t.Errorf("%v: the answer shares its memory", x.in)
		}
		if !same() {
			t.Errorf("%v was written to", x.in)
		}
	}
}

// R3: calls that answer no bytes, or refuse, leave what is handed in as it was too.
func TestLeavesAsItWas(t *testing.T) {
	a, aSame := roomy([]byte("ab\xff"))
	b, bSame := roomy([]byte("ab\xff\xff"))
	Less(a, b)
	Less(b, a)
	Has(a, b)
	Has(b, a)
	Split(a)
	Make(-1, 0, b)
	full, fullSame := roomy(bytes.Repeat([]byte{255}, 9))
	Next(full)
	Split(full)
	if !aSame() || !bSame() || !fullSame() {
		t.Error("an argument was written to")
	}
}

// R3: two answers of like calls share nothing.
func TestAnswersApart(t *testing.T) {
	rest := []byte("rest")
	k := mustMake(t, 1, 2, rest)
	for _, call := range []func() []byte{
		func() []byte { k, _ := Make(1, 2, rest); return k },
		func() []byte { k, _ := Make(1, 2, nil); return k },
		func() []byte { k, _ := Num(1, 2, 3); return k },
		func() []byte { _, _, rest, _ := Split(k); return rest },
		func() []byte { return Next(rest) },
	} {
		one, other := call(), call()
		if shares(one[:cap(one)], other[:cap(other)]) {
			t.Error("two answers share memory")
		}
	}
}

// Nothing is kept: calls at once answer as calls one by one.
func TestAtOnce(t *testing.T) {
	rest := sample(55)
	k := laid(258, 7, rest)
	next := Next(k)
	var all sync.WaitGroup
	for range 8 {
		all.Go(func() {
			for range 50 {
				if made, e := Make(258, 7, rest); !bytes.Equal(made, k) || e != api.OK {
					t.Error(made, e)
				}
				if !splitsInto(k, 258, 7, rest) || !bytes.Equal(Next(k), next) || !Less(k, next) || Has(next, k) {
					t.Error("Split, Next, Less, Has")
				}
			}
		})
	}
	all.Wait()
}

// P3.1 to P3.4: whatever the bytes and numbers, just what is made is split, Less is the order by bytes, and nothing panics.
func FuzzKey(f *testing.F) {
	f.Add(1, 2, 258, []byte("rest"), []byte{0x61, 0xFF})
	f.Add(1<<40, 255, 1<<40, make([]byte, 55), bytes.Repeat([]byte{255}, 9))
	f.Add(-1, 256, 1<<40+1, make([]byte, 56), make([]byte, 65))
	f.Fuzz(func(t *testing.T, tree, table, n int, a, b []byte) {
		head := tree >= 0 && tree <= 1<<40 && table >= 0 && table <= 255
		if k, e := Make(tree, table, a); head && len(a) <= 55 {
			if !bytes.Equal(k, laid(tree, table, a)) || e != api.OK || !splitsInto(k, tree, table, a) {
				t.Error("Make", k, e)
			}
		} else if len(k) != 0 || e != api.ErrArg {
			t.Error("Make", k, e)
		}
		if k, e := Num(tree, table, n); head && n >= 0 && n <= 1<<40 {
			if !bytes.Equal(k, laid(tree, table, fix(n))) || e != api.OK {
				t.Error("Num", k, e)
			}
		} else if len(k) != 0 || e != api.ErrArg {
			t.Error("Num", k, e)
		}
		if gotTree, gotTable, rest, e := Split(b); e == api.OK {
			if k, e := Make(gotTree, gotTable, rest); !bytes.Equal(k, b) || e != api.OK {
				t.Error("Split", k, e)
			}
		} else if !refusedSplit(b) {
			t.Error("Split", b)
		}
		next := Next(b)
		if Less(a, b) != before(a, b) || Has(a, b) != strings.HasPrefix(string(a), string(b)) {
			t.Error("Less, Has")
		}
		if within := !Less(a, b) && (len(next) == 0 || Less(a, next)); within != Has(a, b) {
			t.Error("Next", next)
		}
	})
}
