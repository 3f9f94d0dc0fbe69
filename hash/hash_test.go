package hash

import (
	"bytes"
	"crypto/sha256"
	"encoding/hex"
	"fmt"
	"math"
	"math/bits"
	"math/rand/v2"
	"slices"
	"strings"
	"sync"
	"testing"

	"sawyer/api"
)

// sample is n bytes that aren't alike.
func sample(n int) []byte {
	b := make([]byte, n)
	x := uint32(n)*2654435761 + 1
	for i := range b {
		x = x*1664525 + 1013904223
		b[i] = byte(x >> 24)
	}
	return b
}

// sum is Go's own.
func sum(parts ...string) string {
	s := sha256.Sum256([]byte(strings.Join(parts, "")))
	return string(s[:])
}

// leaves are the hashes of n leaves, no two of them alike.
func leaves(n int) []string {
	var out []string
	for i := range n {
		out = append(out, sum("\x00", fmt.Sprint("leaf ", i)))
	}
	return out
}

// texts are what may stand for a hash and mostly is none.
func texts() []string {
	return []string{"", "\x00", "\x01", "a", "ab", string(sample(31)), string(sample(32)), string(make([]byte, 32)), strings.Repeat("\xff", 32), string(sample(33)), string(sample(64)), string(sample(65)), string(sample(1000))}
}

// unhex are hashes written as digits, a space between two of them.
func unhex(t *testing.T, digits string) []string {
	t.Helper()
	var out []string
	for _, w := range strings.Fields(digits) {
		b, err := hex.DecodeString(w)
		if err != nil || len(b) != 32 {
			t.Fatal(w, err)
		}
		out = append(out, string(b))
	}
	return out
}

// short tells hashes by their first digits.
func short(l []string) string {
	out := fmt.Sprint(len(l), ":")
	for _, s := range l {
		out += fmt.Sprintf(" %.3x/%d", s, len(s))
	}
	return out
}

// wantCut is the cut of n, sought from 1 on.
func wantCut(n int) int {
	k := 1
	for k*2 < n {
		k *= 2
	}
	return k
}

// wantRoot is P15.1's, in its words.
func wantRoot(l []string) string {
	if len(l) == 0 {
		return sum()
	}
	if len(l) == 1 {
		return l[0]
	}
	k := wantCut(len(l))
	return sum("\x01", wantRoot(l[:k]), wantRoot(l[k:]))
}

// wantPath is P15.2's, in its words.
func wantPath(l []string, index int) []string {
	if len(l) == 1 {
		return nil
	}
	k := wantCut(len(l))
	if index < k {
		return append(wantPath(l[:k], index), wantRoot(l[k:]))
	}
	return append(wantPath(l[k:], index-k), wantRoot(l[:k]))
}

// wantProof is P15.3's S, in its words.
func wantProof(m int, l []string, own bool) []string {
	if m == len(l) {
		if own {
			return nil
		}
		return []string{wantRoot(l)}
	}
	k := wantCut(len(l))
	if m <= k {
		return append(wantProof(m, l[:k], own), wantRoot(l[k:]))
	}
	return append(wantProof(m-k, l[k:], false), wantRoot(l[:k]))
}

// byRows are the root and the path of another reckoning: row by row from below, two and two, one that is left over going up as it is.
func byRows(l []string, index int) (string, []string) {
	var path []string
	for len(l) > 1 {
		if other := index ^ 1; other < len(l) {
			path = append(path, l[other])
		}
		var up []string
		for i := 0; i < len(l); i += 2 {
			if i+1 < len(l) {
				up = append(up, sum("\x01", l[i], l[i+1]))
			} else {
				up = append(up, l[i])
			}
		}
		l, index = up, index/2
	}
	return l[0], path
}

// hashes: has each of them 32 bytes?
func hashes(l ...string) bool {
	for _, s := range l {
		if len(s) != 32 {
			return false
		}
	}
	return true
}

// wantCheckPath is P15.4's, by the bits of index and size, as RFC 9162 (2.1.3.2) checks it.
func wantCheckPath(leaf string, index, size int, path []string, root string) api.Errno {
	if size < 1 || size > 1<<40 || index < 0 || index >= size {
		return api.ErrRange
	}
	if !hashes(leaf, root) || !hashes(path...) {
		return api.ErrProof
	}
	fn, sn, r := index, size-1, leaf
	for _, p := range path {
		if sn == 0 {
			return api.ErrProof
		}
		if fn&1 == 1 || fn == sn {
			r = sum("\x01", p, r)
			for fn&1 == 0 && fn != 0 {
				fn, sn = fn>>1, sn>>1
			}
		} else {
			r = sum("\x01", r, p)
		}
		fn, sn = fn>>1, sn>>1
	}
	if sn != 0 || r != root {
		return api.ErrProof
	}
	return api.OK
}

// wantCheckProof is P15.5's, by the bits of m and n, as RFC 9162 (2.1.4.2) checks it.
func wantCheckProof(m, n int, proof []string, old, root string) api.Errno {
	if m < 1 || m > n || n > 1<<40 {
		return api.ErrRange
	}
	if !hashes(old, root) || !hashes(proof...) {
		return api.ErrProof
	}
	if m == n {
		if len(proof) > 0 || old != root {
			return api.ErrProof
		}
		return api.OK
	}
	if len(proof) == 0 {
		return api.ErrProof
	}
	if m&(m-1) == 0 {
		proof = append([]string{old}, proof...)
	}
	fn, sn := m-1, n-1
	for fn&1 == 1 {
		fn, sn = fn>>1, sn>>1
	}
	fr, sr := proof[0], proof[0]
	for _, c := range proof[1:] {
		if sn == 0 {
			return api.ErrProof
		}
		if fn&1 == 1 || fn == sn {
			fr, sr = sum("\x01", c, fr), sum("\x01", c, sr)
			for fn&1 == 0 && fn != 0 {
				fn, sn = fn>>1, sn>>1
			}
		} else {
			sr = sum("\x01", sr, c)
		}
		fn, sn = fn>>1, sn>>1
	}
	if sn != 0 || fr != old || sr != root {
		return api.ErrProof
	}
	return api.OK
}

// checksPath fails, unless CheckPath answers that.
func checksPath(t *testing.T, leaf string, index, size int, path []string, root string, want api.Errno) {
	t.Helper()
	if got := CheckPath(leaf, index, size, path, root); got != want {
		t.Errorf("CheckPath(%.3x, %d, %d, %s, %.3x): %d; not %d", leaf, index, size, short(path), root, got, want)
	}
}

// checksProof fails, unless CheckProof answers that.
func checksProof(t *testing.T, m, n int, proof []string, old, root string, want api.Errno) {
	t.Helper()
	if got := CheckProof(m, n, proof, old, root); got != want {
		t.Errorf("CheckProof(%d, %d, %s, %.3x, %.3x): %d; not %d", m, n, short(proof), old, root, got, want)
	}
}

// paths fails, unless Path answers that.
func paths(t *testing.T, l []string, index int, want ...string) {
	t.Helper()
	if got, e := Path(l, index); e != api.OK || !slices.Equal(got, want) {
		t.Errorf("Path of %d, %d: %s, %d; not %s", len(l), index, short(got), e, short(want))
	}
}

// proofs fails, unless Proof answers that.
func proofs(t *testing.T, l []string, m int, want ...string) {
	t.Helper()
	if got, e := Proof(l, m); e != api.OK || !slices.Equal(got, want) {
		t.Errorf("Proof of %d, %d: %s, %d; not %s", len(l), m, short(got), e, short(want))
	}
}

// noCollide fails, unless Collide tells nothing.
func noCollide(t *testing.T, index, size int, a string, pa []string, b string, pb []string) {
	t.Helper()
	if x, y, is := Collide(index, size, a, pa, b, pb); is || len(x) > 0 || len(y) > 0 {
		t.Errorf("Collide(%d, %d, %.3x, %s, %.3x, %s): %x, %x, %v", index, size, a, short(pa), b, short(pb), x, y, is)
	}
}

// oddInts are numbers at the ends of their kinds, and round the limits.
func oddInts() []int {
	return []int{math.MinInt, math.MinInt + 1, math.MinInt32, -1 << 40, -2, -1, 0, 1, 2, 3, 7, 8, 9, 1 << 31, 1<<32 - 1, 1 << 32, 1<<39 - 1, 1 << 39, 1<<39 + 1, 1<<40 - 1, 1 << 40, 1<<40 + 1, 1 << 41, 1<<62 - 1, 1 << 62, math.MaxInt - 1, math.MaxInt}
}

// Example 1, also of texts that are no hashes.
func TestExample(t *testing.T) {
	for _, l := range [][]string{leaves(3), {"a", "b", "c"}, {"", "", ""}} {
		a, b, c := l[0], l[1], l[2]
		if got := Root(l); got != Node(Node(a, b), c) {
			t.Errorf("%x", got)
		}
		paths(t, l, 0, b, c)
		paths(t, l, 1, a, c)
		paths(t, l, 2, Node(a, b))
		proofs(t, l, 1, b, c)
		proofs(t, l, 2, c)
		proofs(t, l, 3)
	}
}

// P15.1: sums that are known, and Go's own ones, of any bytes.
func TestLeaf(t *testing.T) {
	for _, x := range []struct{ leaf, want string }{
		{"", "6e340b9cffb37a989ca544e6bb780a2c78901d3fb33738768511a30617afa01d"},
		{"\x00", "96a296d224f285c67bee93c30f8a309157f0daa35dc5b87e410b78630a09cfc7"},
		{"L123456", "395aa064aa4c29f7010acfe3f25db9485bbd4b91897b6ad7ad547639252b4d56"},
	} {
		if got := hex.EncodeToString([]byte(Leaf([]byte(x.leaf)))); got != x.want {
			t.Errorf("Leaf(%q): %s", x.leaf, got)
		}
	}
	if Leaf(nil) != Leaf([]byte{}) {
		t.Error("nil bytes are other ones")
	}
	for n := range 300 {
		if got := Leaf(sample(n)); got != sum("\x00", string(sample(n))) {
			t.Errorf("Leaf of %d bytes: %x", n, got)
		}
	}
	for _, b := range append(texts(), string(sample(100000))) {
		if got := Leaf([]byte(b)); got != sum("\x00", b) {
			t.Errorf("Leaf(%.20x): %x", b, got)
		}
	}
}

// P15.1: both sides in their order, whatever texts they are.
func TestNode(t *testing.T) {
	if got := hex.EncodeToString([]byte(Node("N123", "N456"))); got != "aa217fe888e47007fa15edab33c2b492a722cb106c64667fc2b044444de66bbb" {
		t.Error(got)
	}
	for _, l := range texts() {
		for _, r := range texts() {
			if got := Node(l, r); got != sum("\x01", l, r) {
				t.Errorf("Node(%.20x, %.20x): %x", l, r, got)
			}
			if l+r != r+l && Node(l, r) == Node(r, l) {
				t.Errorf("the sides %.20x and %.20x have no order", l, r)
			}
			if Node(l, r) == Leaf([]byte(l+r)) || Node(l, r) == Leaf([]byte("\x01"+l+r)) {
				t.Errorf("the node of %.20x and %.20x is a leaf", l, r)
			}
		}
	}
}

// known are the leaves with which most programs for such trees are tested.
func known(t *testing.T) []string {
	t.Helper()
	var out []string
	for _, w := range []string{"", "00", "10", "2021", "3031", "40414243", "5051525354555657", "606162636465666768696a6b6c6d6e6f"} {
		b, err := hex.DecodeString(w)
		if err != nil {
			t.Fatal(err)
		}
		out = append(out, Leaf(b))
	}
	return out
}

// P15.1 to P15.3: roots, paths and proofs that are known.
func TestKnown(t *testing.T) {
	l := known(t)
	for n, want := range unhex(t, `e3b0c44298fc1c149afbf4c8996fb92427ae41e4649b934ca495991b7852b855
		6e340b9cffb37a989ca544e6bb780a2c78901d3fb33738768511a30617afa01d
		fac54203e7cc696cf0dfcb42c92a1d9dbaf70ad9e621f4bd8d98662f00e3c125
		aeb6bcfe274b70a14fb067a5e5578264db0fa9b51af5e0ba159158f329e06e77
		d37ee418976dd95753c1c73862b9398fa2a2cf9b4ff0fdfe8b30cd95209614b7
		4e3bbb1f7b478dcfe71fb631631519a3bca12c9aefca1612bfce4c13a86264d4
		76e67dadbcdf1e10e1b74ddc608abd2f98dfb16fbce75277b5232a127f2087ef
		ddb89be403809e325750d3d263cd78929c2942b7942a34b77e122c9594a74c8c
		5dc9da79a70659a9ad559cb701ded9a2ab9d823aad2f4960cfe370eff4604328`) {
		if got := Root(l[:n]); got != want {
			t.Errorf("Root of %d: %x", n, got)
		}
	}
	paths(t, l[:1], 0)
	paths(t, l, 0, unhex(t, `96a296d224f285c67bee93c30f8a309157f0daa35dc5b87e410b78630a09cfc7
		5f083f0a1a33ca076a95279832580db3e0ef4584bdff1f54c8a360f50de3031e
		6b47aaf29ee3c2af9af889bc1fb9254dabd31177f16232dd6aab035ca39bf6e4`)...)
	paths(t, l, 5, unhex(t, `bc1a0643b12e4d2d7c77918f44e0f4f79a838b6cf9ec5b5c283e1f4d88599e6b
		ca854ea128ed050b41b35ffc1b87b8eb2bde461e9e3b5596ece6b9d5975a0ae0
		d37ee418976dd95753c1c73862b9398fa2a2cf9b4ff0fdfe8b30cd95209614b7`)...)
	paths(t, l[:3], 2, unhex(t, "fac54203e7cc696cf0dfcb42c92a1d9dbaf70ad9e621f4bd8d98662f00e3c125")...)
	paths(t, l[:5], 1, unhex(t, `6e340b9cffb37a989ca544e6bb780a2c78901d3fb33738768511a30617afa01d
		5f083f0a1a33ca076a95279832580db3e0ef4584bdff1f54c8a360f50de3031e
		bc1a0643b12e4d2d7c77918f44e0f4f79a838b6cf9ec5b5c283e1f4d88599e6b`)...)
	proofs(t, l[:1], 1)
	proofs(t, l, 1, unhex(t, `96a296d224f285c67bee93c30f8a309157f0daa35dc5b87e410b78630a09cfc7
		5f083f0a1a33ca076a95279832580db3e0ef4584bdff1f54c8a360f50de3031e
		6b47aaf29ee3c2af9af889bc1fb9254dabd31177f16232dd6aab035ca39bf6e4`)...)
	proofs(t, l, 6, unhex(t, `0ebc5d3437fbe2db158b9f126a1d118e308181031d0a949f8dededebc558ef6a
		ca854ea128ed050b41b35ffc1b87b8eb2bde461e9e3b5596ece6b9d5975a0ae0
		d37ee418976dd95753c1c73862b9398fa2a2cf9b4ff0fdfe8b30cd95209614b7`)...)
	proofs(t, l[:5], 2, unhex(t, `5f083f0a1a33ca076a95279832580db3e0ef4584bdff1f54c8a360f50de3031e
		bc1a0643b12e4d2d7c77918f44e0f4f79a838b6cf9ec5b5c283e1f4d88599e6b`)...)
}

// P15.1: of none, of one, of a cut's many, of one more and one less; by two reckonings.
func TestRoot(t *testing.T) {
	l := leaves(2050)
	if Root(nil) != sum() || Root([]string{}) != sum() {
		t.Error("the root of none")
	}
	for n := 1; n <= len(l); n++ {
		if n > 260 && n < 2040 && n%97 != 0 && bits.OnesCount(uint(n)) > 1 {
			continue
		}
		got := Root(l[:n])
		if rows, _ := byRows(l[:n], 0); got != wantRoot(l[:n]) || got != rows {
			t.Errorf("Root of %d: %x", n, got)
		}
	}
}

// P15.1: no text is asked whether it is a hash; one alone is answered as it is.
func TestRootOfTexts(t *testing.T) {
	all := texts()
	for _, s := range all {
		if got := Root([]string{s}); got != s {
			t.Errorf("Root of one, %.20x: %.20x", s, got)
		}
	}
	for n := range len(all) + 1 {
		if got := Root(all[:n]); got != wantRoot(all[:n]) {
			t.Errorf("Root of %d texts: %x", n, got)
		}
	}
	if got := Root([]string{"", ""}); got != sum("\x01") {
		t.Errorf("Root of two texts of no bytes: %x", got)
	}
}

// P15.2: all leaves of many trees, by two reckonings.
func TestPath(t *testing.T) {
	t.Parallel()
	l := leaves(300)
	for n := 1; n <= len(l); n++ {
		for index := range n {
			if n > 40 && index > 3 && index < n-3 && (index+n)%29 != 0 {
				continue
			}
			want := wantPath(l[:n], index)
			paths(t, l[:n], index, want...)
			if _, rows := byRows(l[:n], index); !slices.Equal(rows, want) {
				t.Fatal("two reckonings", n, index)
			}
		}
	}
}

// P15.3: all beginnings of many trees.
func TestProof(t *testing.T) {
	t.Parallel()
	l := leaves(300)
	for n := 1; n <= len(l); n++ {
		for m := 1; m <= n; m++ {
			if n > 40 && m > 3 && m < n-3 && (m+n)%29 != 0 && bits.OnesCount(uint(m)) > 1 {
				continue
			}
			proofs(t, l[:n], m, wantProof(m, l[:n], true)...)
		}
	}
}

// P15.3: proofs by hand: where the beginning is a side of its own, nothing is laid for it.
func TestProofByHand(t *testing.T) {
	l := leaves(8)
	at := func(from, to int) string { return Root(l[from:to]) }
	proofs(t, l[:2], 1, l[1])
	proofs(t, l[:2], 2)
	proofs(t, l[:4], 2, at(2, 4))
	proofs(t, l[:4], 3, l[2], l[3], at(0, 2))
	proofs(t, l[:5], 4, l[4])
	proofs(t, l[:6], 5, l[4], l[5], at(0, 4))
	proofs(t, l[:7], 3, l[2], l[3], at(0, 2), at(4, 7))
	proofs(t, l[:7], 4, at(4, 7))
	proofs(t, l[:7], 5, l[4], l[5], l[6], at(0, 4))
	proofs(t, l[:7], 6, at(4, 6), l[6], at(0, 4))
	proofs(t, l[:8], 7, l[6], l[7], at(4, 6), at(0, 4))
	proofs(t, l[:8], 8)
}

// P15.2, P15.3: texts that are no hashes are taken as they are.
func TestPathOfTexts(t *testing.T) {
	all := texts()
	for n := 1; n <= len(all); n++ {
		for i := range n {
			paths(t, all[:n], i, wantPath(all[:n], i)...)
			proofs(t, all[:n], i+1, wantProof(i+1, all[:n], true)...)
		}
	}
}

// P15.2, P15.3: numbers that no leaf and no beginning has.
func TestRange(t *testing.T) {
	for n := range 20 {
		l := leaves(n)
		for _, x := range append(oddInts(), n-1, n, n+1, -n) {
			p, e := Path(l, x)
			if in := x >= 0 && x < n; in != (e == api.OK) || !in && (e != api.ErrRange || len(p) > 0) {
				t.Errorf("Path of %d, %d: %d, %s", n, x, e, short(p))
			}
			p, e = Proof(l, x)
			if in := x >= 1 && x <= n; in != (e == api.OK) || !in && (e != api.ErrRange || len(p) > 0) {
				t.Errorf("Proof of %d, %d: %d, %s", n, x, e, short(p))
			}
		}
	}
	for _, x := range oddInts() {
		if _, e := Path(nil, x); e != api.ErrRange {
			t.Error("Path of nil", x, e)
		}
		if _, e := Proof(nil, x); e != api.ErrRange {
			t.Error("Proof of nil", x, e)
		}
	}
}

// P15.4, P15.7: each path is taken under its root, and under no other one.
func TestCheckPathTakes(t *testing.T) {
	l := leaves(130)
	for n := 1; n <= len(l); n++ {
		root := wantRoot(l[:n])
		for index := range n {
			if n > 20 && index > 2 && index < n-2 && (index+n)%11 != 0 {
				continue
			}
			path := wantPath(l[:n], index)
			checksPath(t, l[index], index, n, path, root, api.OK)
			checksPath(t, l[index], index, n, path, wantRoot(l[:n-1]), api.ErrProof)
			checksPath(t, sum("\x00other"), index, n, path, root, api.ErrProof)
		}
	}
	checksPath(t, l[0], 0, 1, nil, l[0], api.OK)
	checksPath(t, l[0], 0, 1, []string{}, l[0], api.OK)
	checksPath(t, l[0], 0, 1, nil, l[1], api.ErrProof)
}

// P15.4: a path that is taken at another place, or of another size, has its very shape.
func TestCheckPathElsewhere(t *testing.T) {
	l := leaves(18)
	taken := 0
	for n := 1; n <= 18; n++ {
		root := wantRoot(l[:n])
		for index := range n {
			path := wantPath(l[:n], index)
			for size := -1; size <= 20; size++ {
				for at := -1; at <= 20; at++ {
					want := wantCheckPath(l[index], at, size, path, root)
					checksPath(t, l[index], at, size, path, root, want)
					if want == api.OK {
						taken++
					}
				}
			}
		}
	}
	if taken < 18*19/2 {
		t.Error("few paths are taken", taken)
	}
}

// turned is a hash with one bit turned.
func turned(s string, bit int) string {
	b := []byte(s)
	b[bit/8%len(b)] ^= 1 << (bit % 8)
	return string(b)
}

// lists are hashes of which one is turned, missing, there twice, of another length, or not in its place.
func lists(l []string) [][]string {
	extra := sum("extra")
	out := [][]string{append(slices.Clone(l), extra), append([]string{extra}, l...), append(slices.Clone(l), ""), append([]string{""}, l...)}
	for i, s := range l {
		with := func(x ...string) { out = append(out, slices.Concat(l[:i], x, l[i+1:])) }
		with()
		with(s, s)
		with("")
		with(s[:31])
		with(s[1:])
		with(s + "\x00")
		with("\x00" + s)
		with(s + s)
		for bit := 0; bit < 256; bit += 51 {
			with(turned(s, bit))
		}
		for j := range i {
			other := slices.Clone(l)
			other[i], other[j] = other[j], other[i]
			out = append(out, other)
		}
		out = append(out, l[:i], l[i:])
	}
	return out
}

// others are a hash's neighbours: turned, of other lengths.
func others(s string) []string {
	out := []string{"", s[:31], s[1:], s + "\x00", "\x00" + s, s + s, sum("extra"), string(make([]byte, 32))}
	for bit := 0; bit < 256; bit += 17 {
		out = append(out, turned(s, bit))
	}
	return out
}

// P15.4: one wrong thing is enough.
func TestCheckPathRefuses(t *testing.T) {
	l := leaves(13)
	for n := 1; n <= 13; n++ {
		root := wantRoot(l[:n])
		for index := range n {
			leaf, path := l[index], wantPath(l[:n], index)
			for _, p := range lists(path) {
				want := wantCheckPath(leaf, index, n, p, root)
				if want == api.OK && !slices.Equal(p, path) {
					t.Fatal("another path is taken", n, index)
				}
				checksPath(t, leaf, index, n, p, root, want)
			}
			for _, s := range others(leaf) {
				checksPath(t, s, index, n, path, root, api.ErrProof)
			}
			for _, s := range others(root) {
				checksPath(t, leaf, index, n, path, s, api.ErrProof)
			}
		}
	}
}

// P15.4: a text that has not 32 bytes is refused, though all that is summed of it is as it should be.
func TestCheckPathLengths(t *testing.T) {
	for _, a := range texts() {
		checksPath(t, a, 0, 1, nil, a, wantCheckPath(a, 0, 1, nil, a))
		for _, b := range texts() {
			for index, l := range [][2]string{{a, b}, {b, a}} {
				root := sum("\x01", l[0], l[1])
				checksPath(t, a, index, 2, []string{b}, root, wantCheckPath(a, index, 2, []string{b}, root))
				if (len(a) == 32 && len(b) == 32) != (CheckPath(a, index, 2, []string{b}, root) == api.OK) {
					t.Errorf("%.20x, %.20x", a, b)
				}
			}
		}
	}
	// What is summed is the same where a byte goes over from one hash to the other one.
	a, b := sum("a"), sum("b")
	root := sum("\x01", a, b)
	checksPath(t, a, 0, 2, []string{b}, root, api.OK)
	checksPath(t, a[:31], 0, 2, []string{a[31:] + b}, root, api.ErrProof)
	checksPath(t, a+b[:1], 0, 2, []string{b[1:]}, root, api.ErrProof)
	checksPath(t, a+b, 0, 2, []string{""}, root, api.ErrProof)
	checksPath(t, "", 1, 2, []string{a + b}, root, api.ErrProof)
}

// P15.5, P15.7: each proof is taken between its roots, and between no others.
func TestCheckProofTakes(t *testing.T) {
	l := leaves(130)
	for n := 1; n <= len(l); n++ {
		root := wantRoot(l[:n])
		for m := 1; m <= n; m++ {
			if n > 20 && m > 2 && m < n-2 && (m+n)%11 != 0 && bits.OnesCount(uint(m)) > 1 {
				continue
			}
			proof, old := wantProof(m, l[:n], true), wantRoot(l[:m])
			checksProof(t, m, n, proof, old, root, api.OK)
			checksProof(t, m, n, proof, wantRoot(l[:m-1]), root, api.ErrProof)
			checksProof(t, m, n, proof, old, wantRoot(l[:n-1]), api.ErrProof)
			checksProof(t, m, n, proof, root, old, wantCheckProof(m, n, proof, root, old))
		}
	}
	checksProof(t, 1, 1, nil, l[0], l[0], api.OK)
	checksProof(t, 5, 5, []string{}, l[0], l[0], api.OK)
	checksProof(t, 5, 5, nil, l[0], l[1], api.ErrProof)
	checksProof(t, 5, 5, []string{l[0]}, l[0], l[0], api.ErrProof)
}

// P15.5: a proof that is taken of other sizes has its very shape.
func TestCheckProofElsewhere(t *testing.T) {
	l := leaves(18)
	taken := 0
	for n := 1; n <= 18; n++ {
		root := wantRoot(l[:n])
		for m := 1; m <= n; m++ {
			proof, old := wantProof(m, l[:n], true), wantRoot(l[:m])
			for size := -1; size <= 20; size++ {
				for at := -1; at <= 20; at++ {
					want := wantCheckProof(at, size, proof, old, root)
					checksProof(t, at, size, proof, old, root, want)
					if want == api.OK {
						taken++
					}
				}
			}
		}
	}
	if taken < 18*19/2 {
		t.Error("few proofs are taken", taken)
	}
}

// P15.5: one wrong thing is enough.
func TestCheckProofRefuses(t *testing.T) {
	l := leaves(13)
	for n := 1; n <= 13; n++ {
		root := wantRoot(l[:n])
		for m := 1; m <= n; m++ {
			proof, old := wantProof(m, l[:n], true), wantRoot(l[:m])
			for _, p := range lists(proof) {
				want := wantCheckProof(m, n, p, old, root)
				if want == api.OK && !slices.Equal(p, proof) {
					t.Fatal("another proof is taken", n, m)
				}
				checksProof(t, m, n, p, old, root, want)
			}
			for _, s := range others(old) {
				checksProof(t, m, n, proof, s, root, api.ErrProof)
			}
			for _, s := range others(root) {
				checksProof(t, m, n, proof, old, s, api.ErrProof)
			}
			checksProof(t, m, n, slices.Concat([]string{old}, proof), old, root, wantCheckProof(m, n, slices.Concat([]string{old}, proof), old, root))
		}
	}
}

// P15.5: a text that has not 32 bytes is refused, though all that is summed of it is as it should be.
func TestCheckProofLengths(t *testing.T) {
	for _, a := range texts() {
		checksProof(t, 1, 1, nil, a, a, wantCheckProof(1, 1, nil, a, a))
		checksProof(t, 3, 3, nil, a, a, wantCheckProof(1, 1, nil, a, a))
		for _, b := range texts() {
			both := len(a) == 32 && len(b) == 32
			root := sum("\x01", a, b)
			if got := CheckProof(1, 2, []string{b}, a, root); both != (got == api.OK) || !both && got != api.ErrProof {
				t.Errorf("the first of %.20x, %.20x: %d", a, b, got)
			}
			for _, c := range texts() {
				all := both && len(c) == 32
				old, root := sum("\x01", c, a), sum("\x01", sum("\x01", c, a), b)
				if got := CheckProof(2, 3, []string{b}, old, root); (len(b) == 32) != (got == api.OK) {
					t.Errorf("the first two of %.20x, %.20x, %.20x: %d", c, a, b, got)
				}
				old, root = sum("\x01", c, a), sum("\x01", c, sum("\x01", a, b))
				if got := CheckProof(3, 4, []string{a, b, c}, old, root); all != (got == api.OK) || !all && got != api.ErrProof {
					t.Errorf("the first three of %.20x, %.20x, %.20x: %d", c, a, b, got)
				}
			}
		}
	}
}

// P15.4, P15.5: ErrRange comes ahead of ErrProof, whatever else is wrong.
func TestCheckRange(t *testing.T) {
	h := sum("h")
	for _, x := range oddInts() {
		for _, y := range oddInts() {
			for _, l := range [][]string{nil, {h}, {""}, slices.Repeat([]string{h}, 40), slices.Repeat([]string{h}, 41)} {
				for _, s := range []string{h, ""} {
					checksPath(t, s, x, y, l, h, wantCheckPath(s, x, y, l, h))
					checksPath(t, h, x, y, l, s, wantCheckPath(h, x, y, l, s))
					checksProof(t, x, y, l, s, h, wantCheckProof(x, y, l, s, h))
					checksProof(t, x, y, l, h, s, wantCheckProof(x, y, l, h, s))
				}
			}
		}
	}
	checksPath(t, "", 0, 0, nil, "", api.ErrRange)
	checksPath(t, "", 0, 1, nil, "", api.ErrProof)
	checksPath(t, "", 1, 1, nil, "", api.ErrRange)
	checksPath(t, "", 0, 1<<40, nil, "", api.ErrProof)
	checksPath(t, "", 0, 1<<40+1, nil, "", api.ErrRange)
	checksPath(t, "", 1<<40-1, 1<<40, nil, "", api.ErrProof)
	checksPath(t, "", 1<<40, 1<<40, nil, "", api.ErrRange)
	checksProof(t, 0, 1, nil, "", "", api.ErrRange)
	checksProof(t, 0, 0, nil, "", "", api.ErrRange)
	checksProof(t, 2, 1, nil, "", "", api.ErrRange)
	checksProof(t, 1, 1<<40, nil, "", "", api.ErrProof)
	checksProof(t, 1<<40, 1<<40, nil, h, h, api.OK)
	checksProof(t, 1<<40+1, 1<<40+1, nil, h, h, api.ErrRange)
	checksProof(t, 1, 1<<40+1, nil, h, h, api.ErrRange)
}

// A giant is a tree too great to be laid out: all of its leaves but one are the same.
type giant struct {
	plain, special string
	at             int
	roots          map[int]string // of plain leaves alone, by how many they are
}

func newGiant(at int) *giant {
	return &giant{plain: sum("\x00plain"), special: sum("\x00special"), at: at, roots: map[int]string{}}
}

// root is that of the leaves from one to another.
func (g *giant) root(from, to int) string {
	own := g.at >= from && g.at < to
	if to-from == 1 {
		if own {
			return g.special
		}
		return g.plain
	}
	if s, ok := g.roots[to-from]; ok && !own {
		return s
	}
	k := from + wantCut(to-from)
	s := sum("\x01", g.root(from, k), g.root(k, to))
	if !own {
		g.roots[to-from] = s
	}
	return s
}

// path is P15.2's.
func (g *giant) path(index, from, to int) []string {
	if to-from == 1 {
		return nil
	}
	k := from + wantCut(to-from)
	if index < k {
		return append(g.path(index, from, k), g.root(k, to))
	}
	return append(g.path(index, k, to), g.root(from, k))
}

// proof is P15.3's.
func (g *giant) proof(m, from, to int, own bool) []string {
	if m == to {
		if own {
			return nil
		}
		return []string{g.root(from, to)}
	}
	k := from + wantCut(to-from)
	if m <= k {
		return append(g.proof(m, from, k, own), g.root(k, to))
	}
	return append(g.proof(m, k, to, false), g.root(from, k))
}

// sizes are greater ones, and numbers below each of them.
func sizes() (out [][2]int) {
	r := rand.New(rand.NewPCG(15, 1))
	for _, n := range []int{1, 2, 3, 255, 256, 257, 1 << 20, 1<<31 - 1, 1 << 31, 1<<31 + 1, 1<<32 - 1, 1 << 32, 1<<32 + 1, 1<<39 - 1, 1 << 39, 1<<39 + 1, 0x5555555555, 0xAAAAAAAAAA, 0xFFFF00FFFF, 1<<40 - 2, 1<<40 - 1, 1 << 40} {
		at := []int{0, 1, 2, n / 3, n / 2, n/2 - 1, n - 3, n - 2, n - 1, wantCut(max(n, 2)), wantCut(max(n, 2)) - 1}
		for range 8 {
			at = append(at, r.IntN(n))
		}
		slices.Sort(at)
		for _, x := range slices.Compact(at) {
			if x >= 0 && x < n {
				out = append(out, [2]int{x, n})
			}
		}
	}
	return out
}

// P15.4: sizes up to MaxNum: a path of up to 40 hashes, each of which is asked for.
func TestCheckPathGreat(t *testing.T) {
	t.Parallel()
	for _, x := range sizes() {
		index, n := x[0], x[1]
		g := newGiant(index)
		path, root := g.path(index, 0, n), g.root(0, n)
		checksPath(t, g.special, index, n, path, root, api.OK)
		checksPath(t, g.plain, index, n, path, root, api.ErrProof)
		for i := range path {
			checksPath(t, g.special, index, n, slices.Concat(path[:i], []string{turned(path[i], i)}, path[i+1:]), root, api.ErrProof)
			checksPath(t, g.special, index, n, slices.Concat(path[:i], path[i+1:]), root, api.ErrProof)
		}
		checksPath(t, g.special, index, n, append(path, root), root, api.ErrProof)
		checksPath(t, g.special, index, n, path, turned(root, index%256), api.ErrProof)
		for _, other := range []int{index - 1, index + 1, index ^ 2} {
			checksPath(t, g.special, other, n, path, root, wantCheckPath(g.special, other, n, path, root))
		}
	}
	if p := newGiant(0).path(0, 0, 1<<40); len(p) != 40 {
		t.Error(len(p))
	}
}

// P15.5: sizes up to MaxNum.
func TestCheckProofGreat(t *testing.T) {
	t.Parallel()
	for _, x := range sizes() {
		m, n := x[0]+1, x[1]
		for _, at := range []int{0, m - 1, n - 1} {
			g := newGiant(at)
			proof, old, root := g.proof(m, 0, n, true), g.root(0, m), g.root(0, n)
			checksProof(t, m, n, proof, old, root, api.OK)
			for i := range proof {
				checksProof(t, m, n, slices.Concat(proof[:i], []string{turned(proof[i], i)}, proof[i+1:]), old, root, api.ErrProof)
				checksProof(t, m, n, slices.Concat(proof[:i], proof[i+1:]), old, root, api.ErrProof)
			}
			checksProof(t, m, n, append(proof, root), old, root, api.ErrProof)
			checksProof(t, m, n, proof, turned(old, m%256), root, api.ErrProof)
			checksProof(t, m, n, proof, old, turned(root, m%256), api.ErrProof)
			for _, other := range []int{m - 1, m + 1, m ^ 2} {
				checksProof(t, other, n, proof, old, root, wantCheckProof(other, n, proof, old, root))
			}
		}
	}
}

// P15.7: a beginning that was turned behind its root was told is not proved, nor is a leaf that was.
func TestProves(t *testing.T) {
	t.Parallel()
	l := leaves(40)
	for n := 1; n <= 40; n++ {
		for m := 1; m <= n; m++ {
			old := Root(l[:m])
			for at := range n {
				if n > 9 && (at+m)%7 != 0 && at != m-1 && at != m {
					continue
				}
				other := slices.Clone(l[:n])
				other[at] = sum("\x00turned")
				proof, e := Proof(other, m)
				if e != api.OK {
					t.Fatal(n, m, e)
				}
				want := api.OK
				if at < m {
					want = api.ErrProof
				}
				checksProof(t, m, n, proof, old, Root(other), want)
				path, e := Path(other, at)
				if e != api.OK {
					t.Fatal(n, at, e)
				}
				checksPath(t, other[at], at, n, path, Root(other), api.OK)
				checksPath(t, l[at], at, n, path, Root(other), api.ErrProof)
			}
		}
	}
}

// P15.7: of two trees with one beginning, the proof of the one proves nothing under the other one's root.
func TestTwoTrees(t *testing.T) {
	l := leaves(30)
	for n := 2; n <= 30; n++ {
		other := slices.Concat(l[:n-1], []string{sum("\x00another")})
		for m := 1; m < n; m++ {
			a, _ := Proof(l[:n], m)
			b, _ := Proof(other, m)
			checksProof(t, m, n, b, Root(l[:m]), Root(other), api.OK)
			checksProof(t, m, n, a, Root(l[:m]), Root(other), api.ErrProof)
			checksProof(t, m, n, b, Root(l[:m]), Root(l[:n]), api.ErrProof)
		}
		checksProof(t, n, n, nil, Root(l[:n]), Root(other), api.ErrProof)
	}
}

// P15.6: nothing is told of leaves that no two texts of one sum lead to.
func TestCollideNothing(t *testing.T) {
	l := leaves(9)
	for n := 1; n <= 9; n++ {
		for index := range n {
			path := wantPath(l[:n], index)
			noCollide(t, index, n, l[index], path, l[index], path)
			for j := range n {
				noCollide(t, index, n, l[index], path, l[j], path)
				noCollide(t, index, n, l[index], path, l[j], wantPath(l[:n], j))
			}
			for _, p := range lists(path) {
				noCollide(t, index, n, l[index], path, l[index], p)
				noCollide(t, index, n, l[index], p, l[index], path)
				noCollide(t, index, n, l[index], p, l[index], p)
				noCollide(t, index, n, l[index], p, sum("other"), p)
			}
			for _, s := range others(l[index]) {
				noCollide(t, index, n, l[index], path, s, path)
				noCollide(t, index, n, s, path, l[index], path)
				noCollide(t, index, n, s, path, s, path)
			}
		}
	}
}

// P15.6: texts whose bytes go over from one hash to the next one are summed to the same, and are none that CheckPath takes.
func TestCollideLengths(t *testing.T) {
	a, b := sum("a"), sum("b")
	for _, cut := range []int{0, 1, 31, 33, 63, 64} {
		both := a + b
		noCollide(t, 0, 2, a, []string{b}, both[:cut], []string{both[cut:]})
		noCollide(t, 0, 2, both[:cut], []string{both[cut:]}, a, []string{b})
		noCollide(t, 1, 2, b, []string{a}, both[cut:], []string{both[:cut]})
		noCollide(t, 1, 2, both[cut:], []string{both[:cut]}, b, []string{a})
	}
	noCollide(t, 0, 1, a, nil, b, nil)
	noCollide(t, 0, 1, a, nil, a, nil)
	noCollide(t, 0, 1, "", nil, "a", nil)
}

// R1: no call panics, whatever it is given.
func TestOddArguments(t *testing.T) {
	h := sum("h")
	var all [][]string
	for _, n := range []int{0, 1, 2, 39, 40, 41, 100} {
		all = append(all, make([]string, n), slices.Repeat([]string{h}, n), slices.Repeat(texts(), n))
	}
	all = append(all, nil)
	for _, l := range all {
		for _, x := range oddInts() {
			Path(l, x)
			Proof(l, x)
			for _, y := range oddInts() {
				CheckPath(h, x, y, l, h)
				CheckProof(x, y, l, h, h)
				noCollide(t, x, y, h, l, h, l)
				noCollide(t, x, y, h, nil, "", l)
				noCollide(t, x, y, h, l, turned(h, 1), nil)
			}
		}
		Root(l)
	}
}

// R1: it ends at lists that are long.
func TestLong(t *testing.T) {
	l := slices.Repeat([]string{sum("h")}, 100001)
	g := newGiant(-1)
	g.plain = l[0]
	if got := Root(l); got != g.root(0, len(l)) {
		t.Errorf("%x", got)
	}
	paths(t, l, 65536, g.path(65536, 0, len(l))...)
	proofs(t, l, 99999, g.proof(99999, 0, len(l), true)...)
	checksPath(t, l[0], 0, 1<<40, l, l[0], api.ErrProof)
	checksProof(t, 1, 1<<40, l, l[0], l[0], api.ErrProof)
	checksProof(t, 3, 1<<40, l, l[0], l[0], api.ErrProof)
	noCollide(t, 0, 1<<40, l[0], l, sum("a"), l)
}

// roomy is a copy with room behind it, into which something might be laid.
func roomy(l []string) []string {
	out := slices.Repeat([]string{"room"}, len(l)+4)
	copy(out, l)
	return out[:len(l)]
}

// R3: lists and bytes that are handed in are as they were, and so is the room behind them.
func TestHandedIn(t *testing.T) {
	l := leaves(11)
	for n := 1; n <= 11; n++ {
		for i := range n {
			list, path, proof := roomy(l[:n]), roomy(wantPath(l[:n], i)), roomy(wantProof(i+1, l[:n], true))
			whole := func() []string {
				return slices.Concat(list[:cap(list)], path[:cap(path)], proof[:cap(proof)])
			}
			was := whole()
			Root(list)
			Path(list, i)
			Proof(list, i+1)
			CheckPath(l[i], i, n, path, wantRoot(l[:n]))
			CheckProof(i+1, n, proof, wantRoot(l[:i+1]), wantRoot(l[:n]))
			Collide(i, n, l[i], path, sum("other"), path)
			if !slices.Equal(whole(), was) {
				t.Errorf("%d of %d: %s", i, n, short(whole()))
			}
		}
	}
	b := bytes.Repeat([]byte{170}, 20)
	Leaf(b[:10])
	Leaf(b[:0])
	if !bytes.Equal(b, bytes.Repeat([]byte{170}, 20)) {
		t.Errorf("% x", b)
	}
}

// R3: what is answered is new memory, kept by nobody.
func TestAnswered(t *testing.T) {
	l := leaves(11)
	for n := 1; n <= 11; n++ {
		for i := range n {
			list := slices.Clone(l[:n])
			path, _ := Path(list, i)
			proof, _ := Proof(list, i+1)
			for _, got := range [][]string{path, proof} {
				for j := range got[:cap(got)] {
					got[:cap(got)][j] = "turned"
				}
			}
			if !slices.Equal(list, l[:n]) {
				t.Errorf("%d of %d: an answer is a piece of what was handed in", i, n)
			}
			paths(t, list, i, wantPath(l[:n], i)...)
			proofs(t, list, i+1, wantProof(i+1, l[:n], true)...)
			path, _ = Path(list, i)
			proof, _ = Proof(list, i+1)
			for j := range list {
				list[j] = "turned"
			}
			if !slices.Equal(path, wantPath(l[:n], i)) || !slices.Equal(proof, wantProof(i+1, l[:n], true)) {
				t.Errorf("%d of %d: an answer turns with what was handed in", i, n)
			}
		}
	}
}

// Nothing is kept: many may ask at once.
func TestAtOnce(t *testing.T) {
	l := leaves(60)
	root := wantRoot(l)
	var all sync.WaitGroup
	for i := range 8 {
		all.Go(func() {
			for k := i; k < len(l); k += 8 {
				path, _ := Path(l, k)
				proof, _ := Proof(l, k+1)
				if Root(l) != root || CheckPath(l[k], k, len(l), path, root) != api.OK || CheckProof(k+1, len(l), proof, Root(l[:k+1]), root) != api.OK {
					t.Error(k)
				}
			}
		})
	}
	all.Wait()
}

// Walks: lists of any texts and checks of what has been turned a little, against both reckonings.
func TestWalk(t *testing.T) {
	t.Parallel()
	r := rand.New(rand.NewPCG(15, 2))
	taken := 0
	for range 12000 {
		seed := make([]byte, 12)
		for i := range seed {
			seed[i] = byte(r.Uint32())
		}
		taken += walk(t, seed)
		if t.Failed() {
			t.Fatalf("% x", seed)
		}
	}
	if taken < 3000 || taken > 21000 {
		t.Error("of two checks each: taken", taken)
	}
}

// walk makes a tree of some bytes, turns what proves it as they say, and counts the checks that take it all the same.
func walk(t *testing.T, b []byte) (taken int) {
	t.Helper()
	next := func() int {
		if len(b) == 0 {
			return 0
		}
		x := b[0]
		b = b[1:]
		return int(x)
	}
	pool := append(leaves(7), texts()...)
	n := next()%40 + 1
	l := make([]string, n)
	from := next()
	for i := range l {
		l[i] = pool[(from+i*(from%5))%(7+from/128*len(texts()))%len(pool)]
	}
	index := next() % n
	root := wantRoot(l)
	paths(t, l, index, wantPath(l, index)...)
	proofs(t, l, index+1, wantProof(index+1, l, true)...)
	path, proof, leaf, old := wantPath(l, index), wantProof(index+1, l, true), l[index], wantRoot(l[:index+1])
	at, size := index, n
	for _, s := range []*string{&leaf, &root, &old} {
		if next()%8 == 7 {
			*s = pool[next()%len(pool)]
		}
	}
	if next()%4 == 3 {
		at, size = at+next()%3-1, size+next()%5-2
	}
	for _, p := range []*[]string{&path, &proof} {
		if l := lists32(*p); next()%4 == 3 && len(l) > 0 {
			*p = l[next()%len(l)]
		}
	}
	want := wantCheckPath(leaf, at, size, path, root)
	checksPath(t, leaf, at, size, path, root, want)
	if want == api.OK {
		taken++
	}
	want = wantCheckProof(at+1, size, proof, old, root)
	checksProof(t, at+1, size, proof, old, root, want)
	if want == api.OK {
		taken++
	}
	noCollide(t, at, size, leaf, path, pool[next()%len(pool)], path)
	return taken
}

// lists32 are lists of hashes, turned; none, where not all of them are hashes.
func lists32(l []string) [][]string {
	if !hashes(l...) {
		return nil
	}
	return lists(l)
}

func FuzzHash(f *testing.F) {
	f.Add([]byte(nil))
	f.Add([]byte("any bytes, some of them"))
	f.Add([]byte{12, 1, 7, 7, 3, 0, 0, 3, 1, 4, 3, 8, 3, 9, 1})
	f.Add([]byte{39, 200, 33, 0, 0, 0, 0, 7, 5, 3, 2})
	f.Fuzz(func(t *testing.T, b []byte) {
		if got := Leaf(b); got != sum("\x00", string(b)) {
			t.Errorf("Leaf: %x", got)
		}
		k := len(b) / 3
		if got := Node(string(b[:k]), string(b[k:])); got != sum("\x01", string(b)) {
			t.Errorf("Node: %x", got)
		}
		walk(t, b)
	})
}
