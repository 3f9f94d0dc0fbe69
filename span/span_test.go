package span

import (
	"bytes"
	"crypto/sha256"
	"encoding/binary"
	"encoding/hex"
	"fmt"
	"math"
	"math/rand/v2"
	"slices"
	"strconv"
	"strings"
	"sync"
	"testing"

	"sawyer/api"
	"sawyer/hash"
)

// sum is Go's own.
func sum(parts ...string) string {
	s := sha256.Sum256([]byte(strings.Join(parts, "")))
	return string(s[:])
}

// leaves are n hashes, no two of them alike.
func leaves(n int) []string {
	var out []string
	for i := range n {
		out = append(out, sum("\x00", fmt.Sprint("leaf ", i)))
	}
	return out
}

// ones are the ones of n in binary, as the numbers they stand for, the highest first.
func ones(n int) []int {
	var out []int
	digits := strconv.FormatInt(int64(n), 2)
	for i, c := range digits {
		if c == '1' {
			out = append(out, 1<<(len(digits)-1-i))
		}
	}
	return out
}

// spanOf is a span that may be, of that size, its nodes no tree's.
func spanOf(size int) Span {
	s := Span{Size: size}
	for i := range ones(size) {
		s.Nodes = append(s.Nodes, sum("node", strconv.Itoa(i), strconv.Itoa(size)))
	}
	return s
}

// perfect is the root of as many leaves as a power of two, row by row from below.
func perfect(l []string) string {
	for len(l) > 1 {
		var up []string
		for i := 0; i < len(l); i += 2 {
			up = append(up, sum("\x01", l[i], l[i+1]))
		}
		l = up
	}
	return l[0]
}

// wantOf is the span of leaves, each node reckoned from those it stands for.
func wantOf(l []string) Span {
	s := Span{Size: len(l)}
	for _, n := range ones(len(l)) {
		s.Nodes = append(s.Nodes, perfect(l[:n]))
		l = l[n:]
	}
	return s
}

// wantTree is the root of leaves, as RFC 6962 cuts them.
func wantTree(l []string) string {
	switch len(l) {
	case 0:
		return sum()
	case 1:
		return l[0]
	}
	k := 1
	for k*2 < len(l) {
		k *= 2
	}
	return sum("\x01", wantTree(l[:k]), wantTree(l[k:]))
}

// wantOK: may s be?
func wantOK(s Span) bool {
	if s.Size < 0 || s.Size > 1<<40 || len(s.Nodes) != len(ones(s.Size)) {
		return false
	}
	for _, n := range s.Nodes {
		if len(n) != 32 {
			return false
		}
	}
	return true
}

// wantPush is P16.1's, in its words.
func wantPush(s Span, leaf string) (Span, api.Errno) {
	if !wantOK(s) || s.Size == 1<<40 || len(leaf) != 32 {
		return Span{}, api.ErrArg
	}
	nodes := append(slices.Clone(s.Nodes), leaf)
	digits := strconv.FormatInt(int64(s.Size), 2)
	for range len(digits) - len(strings.TrimRight(digits, "1")) {
		n := len(nodes)
		nodes = append(slices.Clone(nodes[:n-2]), sum("\x01", nodes[n-2], nodes[n-1]))
	}
	return Span{Size: s.Size + 1, Nodes: nodes}, api.OK
}

// wantRoot is P16.2's, from the first node on.
func wantRoot(s Span) (string, api.Errno) {
	if !wantOK(s) {
		return "", api.ErrArg
	}
	if len(s.Nodes) == 0 {
		return sum(), api.OK
	}
	var fold func(l []string) string
	fold = func(l []string) string {
		if len(l) == 1 {
			return l[0]
		}
		return sum("\x01", l[0], fold(l[1:]))
	}
	return fold(s.Nodes), api.OK
}

// wantBytes is P16.3's.
func wantBytes(s Span) []byte {
	return append(binary.AppendUvarint(nil, uint64(s.Size)), strings.Join(s.Nodes, "")...)
}

// wantDecode is the span that is encoded as b is: a reader that asks nothing of what is encoded.
func wantDecode(b []byte) (Span, api.Errno) {
	n, used := binary.Uvarint(b)
	if used <= 0 || n > 1<<40 || used > 1 && b[used-1] == 0 || len(b)-used != 32*len(ones(int(n))) {
		return Span{}, api.ErrCorrupt
	}
	s := Span{Size: int(n)}
	for i := used; i < len(b); i += 32 {
		s.Nodes = append(s.Nodes, string(b[i:i+32]))
	}
	return s, api.OK
}

func alike(a, b Span) bool { return a.Size == b.Size && slices.Equal(a.Nodes, b.Nodes) }

func zero(s Span) bool { return s.Size == 0 && len(s.Nodes) == 0 }

// short tells a span by its nodes' first digits.
func short(s Span) string {
	out := fmt.Sprint(s.Size, " of ", len(s.Nodes), ":")
	for i, n := range s.Nodes {
		if i == 50 {
			return out + " .."
		}
		out += fmt.Sprintf(" %.3x/%d", n, len(n))
	}
	return out
}

// takes fails, unless each call takes s, and answers as reckoned here.
func takes(t *testing.T, s Span) {
	t.Helper()
	if e := Check(s); e != api.OK {
		t.Errorf("Check of %s: %d", short(s), e)
	}
	root, _ := wantRoot(s)
	if got, e := Root(s); e != api.OK || got != root {
		t.Errorf("Root of %s: %x, %d; asked for %x", short(s), got, e, root)
	}
	b, e := Encode(s)
	if e != api.OK || !bytes.Equal(b, wantBytes(s)) {
		t.Errorf("Encode of %s: %x, %d", short(s), b, e)
	}
	if got, e := Decode(b); e != api.OK || !alike(got, s) {
		t.Errorf("Decode of %s: %s, %d", short(s), short(got), e)
	}
	pushes(t, s, sum("pushed"))
}

// pushes fails, unless Push answers as reckoned here.
func pushes(t *testing.T, s Span, leaf string) Span {
	t.Helper()
	want, f := wantPush(s, leaf)
	got, e := Push(s, leaf)
	if e != f || !alike(got, want) {
		t.Errorf("Push to %s of %.3x/%d: %s, %d; asked for %s, %d", short(s), leaf, len(leaf), short(got), e, short(want), f)
	}
	return got
}

// refused fails, unless each call answers ErrArg of s, and nothing beside it.
func refused(t *testing.T, s Span) {
	t.Helper()
	if e := Check(s); e != api.ErrArg {
		t.Errorf("Check of %s: %d", short(s), e)
	}
	if got, e := Push(s, sum("leaf")); e != api.ErrArg || !zero(got) {
		t.Errorf("Push to %s: %s, %d", short(s), short(got), e)
	}
	if got, e := Root(s); e != api.ErrArg || got != "" {
		t.Errorf("Root of %s: %x, %d", short(s), got, e)
	}
	if got, e := Encode(s); e != api.ErrArg || len(got) > 0 {
		t.Errorf("Encode of %s: %x, %d", short(s), got, e)
	}
}

// judged fails, unless s is taken or refused as it should be.
func judged(t *testing.T, s Span) {
	t.Helper()
	if wantOK(s) {
		takes(t, s)
	} else {
		refused(t, s)
	}
}

// decodes fails, unless Decode answers as the other reader.
func decodes(t *testing.T, what string, b []byte) {
	t.Helper()
	want, f := wantDecode(b)
	if got, e := Decode(b); e != f || !alike(got, want) {
		t.Errorf("%s: Decode of %.20x (%d bytes): %s, %d; asked for %s, %d", what, b, len(b), short(got), e, short(want), f)
	}
}

// corrupt fails, unless Decode refuses b.
func corrupt(t *testing.T, what string, b []byte) {
	t.Helper()
	if got, e := Decode(b); e != api.ErrCorrupt || !zero(got) {
		t.Errorf("%s: Decode of %.20x (%d bytes): %s, %d", what, b, len(b), short(got), e)
	}
}

// sizes are small ones and great ones, with their ones in all manners of places.
func sizes() []int {
	out := []int{1<<40 - 2, 1<<40 - 1, 1 << 40, 0x5555555555, 0xAAAAAAAAAA, 0xFFFF00FFFF, 0xFFFFFFFFFE}
	for n := range 70 {
		out = append(out, n)
	}
	for k := 7; k < 40; k++ {
		out = append(out, 1<<k-1, 1<<k, 1<<k+1, 1<<k+1<<(k-1)-1, 3<<(k-2), 1<<40-1<<k, 1<<40-1<<k-1)
	}
	return out
}

// oddSizes are none that may be.
func oddSizes() []int {
	return []int{math.MinInt, math.MinInt + 1, math.MinInt32, -1 << 40, -256, -2, -1, 1<<40 + 1, 1<<40 + 2, 1 << 41, 1<<41 - 1, 1<<62 - 1, 1 << 62, math.MaxInt - 1, math.MaxInt}
}

// oddTexts are none that may be a hash.
func oddTexts() []string {
	h := sum("odd")
	return []string{"", "\x00", "a", h[:1], h[:16], h[:31], h + "\x00", h + h[:1], h + h, hex.EncodeToString([]byte(h)), strings.Repeat(h, 100)}
}

// Example 1: five leaves are two nodes, of the first four and the fifth.
func TestExample(t *testing.T) {
	l := leaves(5)
	s, e := Of(l)
	four := hash.Node(hash.Node(l[0], l[1]), hash.Node(l[2], l[3]))
	if e != api.OK || !alike(s, Span{Size: 5, Nodes: []string{four, l[4]}}) {
		t.Errorf("%s, %d", short(s), e)
	}
	if r, e := Root(s); e != api.OK || r != hash.Node(four, l[4]) {
		t.Errorf("%x, %d", r, e)
	}
	if b, e := Encode(s); e != api.OK || string(b) != "\x05"+four+l[4] {
		t.Errorf("%x, %d", b, e)
	}
}

// P16.1, P16.2: roots that are known, leaf by leaf.
func TestKnown(t *testing.T) {
	roots := strings.Fields(`e3b0c44298fc1c149afbf4c8996fb92427ae41e4649b934ca495991b7852b855
		6e340b9cffb37a989ca544e6bb780a2c78901d3fb33738768511a30617afa01d
		fac54203e7cc696cf0dfcb42c92a1d9dbaf70ad9e621f4bd8d98662f00e3c125
		aeb6bcfe274b70a14fb067a5e5578264db0fa9b51af5e0ba159158f329e06e77
		d37ee418976dd95753c1c73862b9398fa2a2cf9b4ff0fdfe8b30cd95209614b7
		4e3bbb1f7b478dcfe71fb631631519a3bca12c9aefca1612bfce4c13a86264d4
		76e67dadbcdf1e10e1b74ddc608abd2f98dfb16fbce75277b5232a127f2087ef
		ddb89be403809e325750d3d263cd78929c2942b7942a34b77e122c9594a74c8c
		5dc9da79a70659a9ad559cb701ded9a2ab9d823aad2f4960cfe370eff4604328`)
	texts := []string{"", "00", "10", "2021", "3031", "40414243", "5051525354555657", "606162636465666768696a6b6c6d6e6f"}
	var s Span
	for n, want := range roots {
		if got, e := Root(s); e != api.OK || hex.EncodeToString([]byte(got)) != want {
			t.Errorf("Root of %d: %x, %d", n, got, e)
		}
		if n == len(texts) {
			break
		}
		b, err := hex.DecodeString(texts[n])
		if err != nil {
			t.Fatal(err)
		}
		var e api.Errno
		if s, e = Push(s, hash.Leaf(b)); e != api.OK || s.Size != n+1 {
			t.Fatal(n, e)
		}
	}
}

// P16.1, P16.4: leaves at once and one by one are the same span; its root is that of the leaves, by three reckonings.
func TestOf(t *testing.T) {
	l := leaves(300)
	var step Span
	for n := range len(l) + 1 {
		s, e := Of(l[:n])
		if e != api.OK || !alike(s, wantOf(l[:n])) {
			t.Fatalf("Of %d: %s, %d", n, short(s), e)
		}
		if !alike(step, s) {
			t.Fatalf("%d pushed: %s", n, short(step))
		}
		if r, e := Root(s); e != api.OK || r != hash.Root(l[:n]) || r != wantTree(l[:n]) {
			t.Fatalf("Root of %d: %x, %d", n, r, e)
		}
		if n < len(l) {
			step = pushes(t, step, l[n])
		}
	}
}

// P16.4: leaves that are pushed to a span behind its bytes; so many at once, so many later.
func TestLater(t *testing.T) {
	l := leaves(70)
	for n := range len(l) {
		s, _ := Of(l[:n])
		b, _ := Encode(s)
		s, e := Decode(b)
		if e != api.OK {
			t.Fatal(n, e)
		}
		for k := n; k < len(l); k++ {
			if s, e = Push(s, l[k]); e != api.OK {
				t.Fatal(n, k, e)
			}
			if r, _ := Root(s); r != wantTree(l[:k+1]) {
				t.Fatalf("%d and %d more: %s", n, k+1-n, short(s))
			}
		}
	}
}

// P16.1: leaves that are alike are leaves nonetheless; so is one that is a node's hash.
func TestAlike(t *testing.T) {
	h := sum("h")
	node := sum("\x01", h, h)
	for n := range 40 {
		same := slices.Repeat([]string{h}, n)
		if s, e := Of(same); e != api.OK || !alike(s, wantOf(same)) {
			t.Errorf("%d alike: %s, %d", n, short(s), e)
		}
		mixed := append(same, node, node)
		s, e := Of(mixed)
		if r, _ := Root(s); e != api.OK || s.Size != n+2 || r != wantTree(mixed) {
			t.Errorf("%d, and nodes: %s, %d", n, short(s), e)
		}
	}
}

// P16.1: the first leaf that is none ends it, with nothing beside the error.
func TestOfWrong(t *testing.T) {
	for n := 1; n <= 9; n++ {
		for at := range n {
			for _, x := range oddTexts() {
				l := leaves(n)
				l[at] = x
				if s, e := Of(l); e != api.ErrArg || !zero(s) {
					t.Errorf("%d of %d, of %d bytes: %s, %d", at, n, len(x), short(s), e)
				}
			}
		}
	}
	for _, l := range [][]string{nil, {}} {
		if s, e := Of(l); e != api.OK || !zero(s) {
			t.Errorf("%s, %d", short(s), e)
		}
	}
}

// P16.1 to P16.3: spans of any size that may be are taken.
func TestSizes(t *testing.T) {
	for _, n := range sizes() {
		s := spanOf(n)
		takes(t, s)
		if n == 0 {
			takes(t, Span{Nodes: []string{}})
		}
	}
}

// P16.1: sizes that may not be, with as many nodes as their ones, and with others.
func TestWrongSizes(t *testing.T) {
	for _, n := range oddSizes() {
		for k := range 65 {
			refused(t, Span{Size: n, Nodes: leaves(k)})
		}
	}
}

// P16.1: no other number of nodes may be.
func TestWrongCounts(t *testing.T) {
	all := leaves(64)
	for _, n := range sizes() {
		for k := range 64 {
			if k != len(ones(n)) {
				refused(t, Span{Size: n, Nodes: all[:k]})
			}
		}
	}
	refused(t, Span{Nodes: leaves(10000)})
	refused(t, Span{Size: 10000, Nodes: leaves(10000)})
}

// P16.1: each node is asked for its length.
func TestWrongNodes(t *testing.T) {
	for _, n := range sizes() {
		for at := range ones(n) {
			for _, x := range oddTexts() {
				s := spanOf(n)
				s.Nodes[at] = x
				refused(t, s)
			}
		}
	}
	h := sum("h")
	refused(t, Span{Size: 3, Nodes: []string{h[:31], h + "a"}})
	refused(t, Span{Size: 3, Nodes: []string{h + h, ""}})
}

// P16.1: any 32 bytes are a leaf, or a node; no others are.
func TestLeaves(t *testing.T) {
	for _, n := range sizes() {
		for _, x := range oddTexts() {
			pushes(t, spanOf(n), x)
			if s, e := Push(spanOf(n), x); e != api.ErrArg || !zero(s) {
				t.Errorf("Push to %d of %d bytes: %s, %d", n, len(x), short(s), e)
			}
		}
		for _, x := range []string{string(make([]byte, 32)), strings.Repeat("\xff", 32), strings.Repeat("\xc3", 32)} {
			s := spanOf(n)
			pushes(t, s, x)
			for at := range s.Nodes {
				s.Nodes[at] = x
			}
			takes(t, s)
		}
	}
}

// P16.1: the greatest span takes no more, the one below it one leaf.
func TestFull(t *testing.T) {
	s := spanOf(1<<40 - 1)
	if len(s.Nodes) != 40 {
		t.Fatal(len(s.Nodes))
	}
	full, e := Push(s, sum("last"))
	if e != api.OK || full.Size != api.MaxNum || len(full.Nodes) != 1 {
		t.Fatalf("%s, %d", short(full), e)
	}
	takes(t, full)
	for _, x := range append(oddTexts(), sum("more")) {
		if got, e := Push(full, x); e != api.ErrArg || !zero(got) {
			t.Errorf("%s, %d", short(got), e)
		}
	}
}

// P16.4: trees too great to be laid out, all of their leaves alike: what is pushed leads to the root of one more.
func TestGreat(t *testing.T) {
	plain := []string{sum("\x00plain")} // by level
	for k := range 40 {
		plain = append(plain, sum("\x01", plain[k], plain[k]))
	}
	of := func(n int) Span {
		s := Span{Size: n}
		for k := 40; k >= 0; k-- {
			if n>>k&1 == 1 {
				s.Nodes = append(s.Nodes, plain[k])
			}
		}
		return s
	}
	var root func(n int) string
	root = func(n int) string {
		if n == 1 {
			return plain[0]
		}
		level := 0
		for 1<<(level+1) < n {
			level++
		}
		if n == 1<<(level+1) {
			return plain[level+1]
		}
		return sum("\x01", plain[level], root(n-1<<level))
	}
	for _, n := range sizes() {
		if got, e := Root(of(n)); n > 0 && (e != api.OK || got != root(n)) {
			t.Errorf("Root of %d: %x, %d", n, got, e)
		}
		if n == 1<<40 {
			continue
		}
		if got, e := Push(of(n), plain[0]); e != api.OK || !alike(got, of(n+1)) {
			t.Errorf("Push to %d: %s, %d", n, short(got), e)
		}
	}
}

// P16.2: each node turns the root, and so does their order.
func TestRootOfNodes(t *testing.T) {
	for _, n := range sizes() {
		s := spanOf(n)
		was, e := Root(s)
		if e != api.OK {
			t.Fatal(n, e)
		}
		for at := range s.Nodes {
			turned := Span{Size: n, Nodes: slices.Clone(s.Nodes)}
			turned.Nodes[at] = sum("turned")
			if got, e := Root(turned); e != api.OK || got == was {
				t.Errorf("%d, node %d: %x, %d", n, at, got, e)
			}
		}
		slices.Reverse(s.Nodes)
		if got, e := Root(s); e != api.OK || (got == was) != (len(s.Nodes) < 2) {
			t.Errorf("%d, turned round: %x, %d", n, got, e)
		}
	}
}

// P16.3: bytes that are known.
func TestBytes(t *testing.T) {
	for n, want := range map[int]string{0: "00", 1: "01", 127: "7f", 128: "8001", 300: "ac02", 1<<40 - 1: "ffffffffff1f", 1 << 40: "808080808020"} {
		s := spanOf(n)
		b, e := Encode(s)
		if e != api.OK || hex.EncodeToString(b) != want+hex.EncodeToString([]byte(strings.Join(s.Nodes, ""))) {
			t.Errorf("%d: %x, %d", n, b, e)
		}
	}
}

// P16.3: a span's bytes cut off anywhere, or with more behind them, are none; nor is nothing.
func TestDecodeCut(t *testing.T) {
	corrupt(t, "nothing", nil)
	corrupt(t, "nothing", []byte{})
	for _, n := range sizes() {
		b := wantBytes(spanOf(n))
		for k := range b {
			corrupt(t, "cut off", b[:k])
		}
		for _, more := range []int{1, 31, 32, 33, 64, 5000} {
			corrupt(t, "more", append(slices.Clone(b), make([]byte, more)...))
		}
	}
}

// P16.3: a size that is too great, by one and more, with the nodes that it tells of.
func TestDecodeGreat(t *testing.T) {
	for _, n := range []uint64{1<<40 + 1, 1<<40 + 2, 1<<41 - 1, 1 << 41, 1<<62 - 1, 1 << 62, 1<<63 - 1, 1 << 63, 1<<63 + 1, 1<<64 - 1} {
		b := binary.AppendUvarint(nil, n)
		for k := range 65 {
			corrupt(t, fmt.Sprint(n), slices.Concat(b, bytes.Repeat([]byte{7}, 32*k)))
		}
	}
}

// P16.3: a size in more bytes than it needs, or in bytes that do not end.
func TestDecodeLong(t *testing.T) {
	for _, n := range sizes() {
		b := binary.AppendUvarint(nil, uint64(n))
		nodes := wantBytes(spanOf(n))[len(b):]
		for range 12 {
			b[len(b)-1] |= 128
			corrupt(t, "without end", slices.Clone(b))
			decodes(t, "without end", slices.Concat(b, nodes))
			b = append(b, 0)
			corrupt(t, "longer", slices.Concat(b, nodes))
		}
	}
}

// P16.3: bytes turned one by one: another span, or none; in a node they are another node.
func TestDecodeTurned(t *testing.T) {
	for _, n := range []int{0, 1, 2, 3, 5, 127, 128, 300, 1 << 20, 1<<40 - 1, 1 << 40} {
		s := spanOf(n)
		b := wantBytes(s)
		head := len(b) - 32*len(s.Nodes)
		for i := range b {
			for _, x := range []byte{1, 2, 4, 8, 16, 32, 64, 128, 255} {
				turned := slices.Clone(b)
				turned[i] ^= x
				decodes(t, "turned", turned)
				if got, e := Decode(turned); i >= head && (e != api.OK || got.Size != n || alike(got, s)) {
					t.Errorf("%d, byte %d: %s, %d", n, i, short(got), e)
				}
			}
		}
	}
}

// P16.3: what is decoded is encoded as it was: no two rows of bytes are one span.
func TestDecodeOnce(t *testing.T) {
	for n := range 1 << 14 {
		for k := range 15 {
			b := append(binary.LittleEndian.AppendUint16(nil, uint16(n)), bytes.Repeat([]byte{9}, 32*k)...)
			for _, b := range [][]byte{b, b[1:]} {
				s, e := Decode(b)
				if e != api.OK {
					continue
				}
				if again, e := Encode(s); e != api.OK || !bytes.Equal(again, b) {
					t.Fatalf("%x: %s, %d", b, short(s), e)
				}
			}
		}
	}
}

// R1: it ends at lists and bytes that are long.
func TestLong(t *testing.T) {
	l := leaves(20001)
	s, e := Of(l)
	if r, f := Root(s); e != api.OK || f != api.OK || r != wantTree(l) {
		t.Errorf("%s, %d, %d", short(s), e, f)
	}
	refused(t, Span{Size: 20001, Nodes: l})
	corrupt(t, "long", make([]byte, 1<<22))
	corrupt(t, "long", bytes.Repeat([]byte{255}, 1<<22))
	refused(t, Span{Size: 1, Nodes: []string{strings.Repeat("a", 1<<20)}})
	if got, e := Push(Span{}, strings.Repeat("a", 1<<20)); e != api.ErrArg || !zero(got) {
		t.Errorf("%s, %d", short(got), e)
	}
}

// roomy is a copy with room behind it, into which something might be laid.
func roomy(l []string) []string {
	out := slices.Repeat([]string{"room"}, len(l)+4)
	copy(out, l)
	return out[:len(l)]
}

// R3: what is handed in is as it was, and so is the room behind it.
func TestHandedIn(t *testing.T) {
	for _, n := range sizes() {
		s := Span{Size: n, Nodes: roomy(spanOf(n).Nodes)}
		was := slices.Clone(s.Nodes[:cap(s.Nodes)])
		bytesIn := slices.Concat(wantBytes(s), []byte("room"))
		wasBytes := slices.Clone(bytesIn)
		Check(s)
		Push(s, sum("a"))
		Push(s, "no hash")
		Root(s)
		Encode(s)
		Of(s.Nodes)
		Decode(bytesIn[:len(bytesIn)-4])
		Decode(bytesIn)
		if !slices.Equal(s.Nodes[:cap(s.Nodes)], was) || !bytes.Equal(bytesIn, wasBytes) {
			t.Errorf("%d: %s", n, short(Span{Nodes: s.Nodes[:cap(s.Nodes)]}))
		}
	}
}

// spoil turns all that a list has, and the room behind it.
func spoil(l []string) {
	for i := range l[:cap(l)] {
		l[:cap(l)][i] = "spoilt"
	}
}

// R3: what is answered is new memory: none of an argument, none of another answer.
func TestAnswered(t *testing.T) {
	for _, n := range sizes() {
		s := spanOf(n)
		got, e := Push(s, sum("a"))
		spoil(got.Nodes)
		if !alike(s, spanOf(n)) {
			t.Errorf("%d: Push answers a piece of what was handed in, %d", n, e)
		}
		got = pushes(t, s, sum("a"))
		was := slices.Clone(got.Nodes)
		spoil(s.Nodes)
		if !slices.Equal(got.Nodes, was) {
			t.Errorf("%d: what Push answers turns with what was handed in", n)
		}
		s = spanOf(n)
		b, _ := Encode(s)
		decoded, _ := Decode(b)
		for i := range b[:cap(b)] {
			b[:cap(b)][i] ^= 255
		}
		if !alike(decoded, s) {
			t.Errorf("%d: what Decode answers turns with its bytes", n)
		}
		takes(t, s)
	}
	l := leaves(21)
	for n := range l {
		s, _ := Of(l[:n])
		spoil(s.Nodes)
		if !slices.Equal(l, leaves(21)) {
			t.Fatalf("%d: Of answers a piece of what was handed in", n)
		}
	}
}

// R3: a span may be pushed to more than once, each time another leaf: none of these turns another one.
func TestBranches(t *testing.T) {
	l := leaves(33)
	for n := range l {
		s, _ := Of(l[:n])
		var got []Span
		for i := range 5 {
			x, e := Push(s, sum("branch", strconv.Itoa(i)))
			if e != api.OK {
				t.Fatal(n, e)
			}
			x = pushes(t, x, l[n])
			got = append(got, x)
		}
		for i, x := range got {
			all := append(slices.Clone(l[:n]), sum("branch", strconv.Itoa(i)), l[n])
			if !alike(x, wantOf(all)) {
				t.Errorf("%d, branch %d: %s", n, i, short(x))
			}
		}
	}
}

// Nothing is kept: many may ask at once, of one span.
func TestAtOnce(t *testing.T) {
	s := spanOf(1<<20 - 1)
	s.Nodes = roomy(s.Nodes)
	var all sync.WaitGroup
	for i := range 8 {
		all.Go(func() {
			for k := range 20 {
				pushes(t, s, sum(strconv.Itoa(i*100+k)))
			}
			takes(t, s)
		})
	}
	all.Wait()
}

// walk goes on from a span as bytes say: pushes, bytes there and back, and what has been turned a little.
func walk(t *testing.T, b []byte) {
	t.Helper()
	next := func() int {
		if len(b) == 0 {
			return 0
		}
		x := b[0]
		b = b[1:]
		return int(x)
	}
	all := sizes()
	s := spanOf(all[next()*7%len(all)])
	odd, pool := oddTexts(), leaves(5)
	for len(b) > 0 {
		x := next()
		switch x % 8 {
		default:
			if got := pushes(t, s, pool[x%5]); got.Size > 0 {
				s = got
			}
		case 5:
			pushes(t, s, odd[x/8%len(odd)])
			coded, _ := Encode(s)
			decodes(t, "coded", coded)
			s, _ = Decode(coded)
		case 6:
			turned := Span{Size: s.Size + x/8 - 16, Nodes: slices.Clone(s.Nodes)}
			if k := len(s.Nodes); k > 0 && next()%2 == 1 {
				turned.Nodes[next()%k] = odd[next()%len(odd)]
			}
			judged(t, turned)
		case 7:
			coded := wantBytes(s)
			coded[next()%len(coded)] ^= byte(next())
			decodes(t, "turned", coded[:max(0, len(coded)-next()%3)])
		}
	}
	takes(t, s)
}

func TestWalk(t *testing.T) {
	t.Parallel()
	r := rand.New(rand.NewPCG(16, 1))
	for range 3000 {
		seed := make([]byte, 40)
		for i := range seed {
			seed[i] = byte(r.Uint32())
		}
		walk(t, seed)
		if t.Failed() {
			t.Fatalf("% x", seed)
		}
	}
}

func FuzzSpan(f *testing.F) {
	f.Add([]byte(nil))
	f.Add([]byte{0})
	f.Add([]byte{0, 0})
	f.Add([]byte{129, 0})
	f.Add(wantBytes(spanOf(5)))
	f.Add(wantBytes(spanOf(300)))
	f.Add(wantBytes(spanOf(1 << 40)))
	f.Add(wantBytes(spanOf(1<<40 - 1)))
	f.Fuzz(func(t *testing.T, b []byte) {
		decodes(t, "any", b)
		if s, e := Decode(b); e == api.OK {
			takes(t, s)
		}
		walk(t, b[:min(len(b), 200)])
	})
}
