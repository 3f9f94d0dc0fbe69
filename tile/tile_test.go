package tile

import (
	"crypto/sha256"
	"encoding/hex"
	"fmt"
	"math"
	"math/rand/v2"
	"slices"
	"strconv"
	"strings"
	"sync"
	"testing"

	"sawyer/api"
	"sawyer/hash"
	"sawyer/span"
)

// most is MaxNum, in the document's words.
const most = 1 << 40

// sum is Go's own.
func sum(parts ...string) string {
	s := sha256.Sum256([]byte(strings.Join(parts, "")))
	return string(s[:])
}

// leaves are n hashes, no two of them alike.
func leaves(n int) []string {
	var out []string
	for i := range n {
		out = append(out, sum("\x00", fmt.Sprint("leaf ", i)))
	}
	return out
}

// A row are the leaves from lo to hi.
type row struct{ lo, hi int }

// of are the leaves that a node stands for.
func of(p Pos) row {
	return row{p.Index * (1 << p.Level), (p.Index + 1) * (1 << p.Level)}
}

// pos are nodes written as levels and indexes by turns.
func pos(l ...int) []Pos {
	var out []Pos
	for i := 0; i < len(l); i += 2 {
		out = append(out, Pos{l[i], l[i+1]})
	}
	return out
}

// ones are the ones of n in binary, as the numbers of zeros behind them, the highest first.
func ones(n int) []int {
	var out []int
	digits := strconv.FormatInt(int64(n), 2)
	for i, c := range digits {
		if c == '1' {
			out = append(out, len(digits)-1-i)
		}
	}
	return out
}

// wantNew is P17.1's, told by the leaves: each level at which the leaf ends a node.
func wantNew(size int) ([]Pos, api.Errno) {
	if size < 0 || size > most-1 {
		return nil, api.ErrRange
	}
	var out []Pos
	for level := 0; level <= 40; level++ {
		if n := 1 << level; (size+1)%n == 0 {
			out = append(out, Pos{level, (size+1)/n - 1})
		}
	}
	return out, api.OK
}

// wantCover is P17.2's, in its words.
func wantCover(lo, hi int) ([]Pos, api.Errno) {
	if lo < 0 || lo >= hi || hi > most {
		return nil, api.ErrRange
	}
	least := 1
	for least < hi-lo {
		least *= 2
	}
	if lo%least != 0 {
		return nil, api.ErrRange
	}
	var out []Pos
	for _, level := range ones(hi - lo) {
		out = append(out, Pos{level, lo / (1 << level)})
		lo += 1 << level
	}
	return out, api.OK
}

// cutOf is the greatest power of two that is less than n, sought from 1 on.
func cutOf(n int) int {
	k := 1
	for k*2 < n {
		k *= 2
	}
	return k
}

// pathRows are the leaves of each hash of hash.Path, in chapter 15's words.
func pathRows(index, lo, hi int) []row {
	if hi-lo == 1 {
		return nil
	}
	mid := lo + cutOf(hi-lo)
	if index < mid {
		return append(pathRows(index, lo, mid), row{mid, hi})
	}
	return append(pathRows(index, mid, hi), row{lo, mid})
}

// proofRows are those of hash.Proof, as chapter 15's S lays them.
func proofRows(m, lo, hi int, own bool) []row {
	if m == hi-lo {
		if own {
			return nil
		}
		return []row{{lo, hi}}
	}
	k := cutOf(hi - lo)
	if m <= k {
		return append(proofRows(m, lo, lo+k, own), row{lo + k, hi})
	}
	return append(proofRows(m-k, lo+k, hi, false), row{lo, lo + k})
}

// covers are the nodes of rows of leaves; each must be one that Cover takes.
func covers(l []row) [][]Pos {
	var out [][]Pos
	for _, r := range l {
		c, e := wantCover(r.lo, r.hi)
		if e != api.OK {
			panic(fmt.Sprint("no cover of ", r))
		}
		out = append(out, c)
	}
	return out
}

// wantPath is P17.3's.
func wantPath(index, size int) ([][]Pos, api.Errno) {
	if size < 1 || size > most || index < 0 || index > size-1 {
		return nil, api.ErrRange
	}
	return covers(pathRows(index, 0, size)), api.OK
}

// wantProof is P17.3's, too.
func wantProof(m, n int) ([][]Pos, api.Errno) {
	if m < 1 || m > n || n > most {
		return nil, api.ErrRange
	}
	return covers(proofRows(m, 0, n, true)), api.OK
}

// wantFold is P17.4's, from the first one on.
func wantFold(l []string) string {
	switch len(l) {
	case 0:
		return sum()
	case 1:
		return l[0]
	}
	return sum("\x01", l[0], wantFold(l[1:]))
}

// wantTree is the root of leaves, as RFC 6962 cuts them.
func wantTree(l []string) string {
	switch len(l) {
	case 0:
		return sum()
	case 1:
		return l[0]
	}
	k := cutOf(len(l))
	return sum("\x01", wantTree(l[:k]), wantTree(l[k:]))
}

func same(a, b [][]Pos) bool { return slices.EqualFunc(a, b, slices.Equal) }

// holds fails, unless all four calls answer as reckoned here.
func holds(t *testing.T, a, b int) {
	t.Helper()
	want, f := wantNew(a)
	if got, e := New(a); e != f || !slices.Equal(got, want) {
		t.Errorf("New(%d): %v, %d; asked for %v, %d", a, got, e, want, f)
	}
	want, f = wantCover(a, b)
	if got, e := Cover(a, b); e != f || !slices.Equal(got, want) {
		t.Errorf("Cover(%d, %d): %v, %d; asked for %v, %d", a, b, got, e, want, f)
	}
	rows, f := wantPath(a, b)
	if got, e := PathNodes(a, b); e != f || !same(got, rows) {
		t.Errorf("PathNodes(%d, %d): %v, %d; asked for %v, %d", a, b, got, e, rows, f)
	}
	rows, f = wantProof(a, b)
	if got, e := ProofNodes(a, b); e != f || !same(got, rows) {
		t.Errorf("ProofNodes(%d, %d): %v, %d; asked for %v, %d", a, b, got, e, rows, f)
	}
}

// numbers are small ones and great ones, with their ones in all manners of places, and some that may not be.
func numbers() []int {
	out := []int{0x5555555555, 0xAAAAAAAAAA, 0xFFFF00FFFF, 0x8000000001, 3 << 38, 5 << 37}
	for k := 1; k <= 40; k++ {
		out = append(out, 1<<k-1, 1<<k, 1<<k+1, most-1<<k+1)
	}
	return append(out, odd()...)
}

// odd are numbers that no log has.
func odd() []int {
	return []int{math.MinInt, math.MinInt + 1, math.MinInt32, -most, -256, -2, -1, 0, most + 1, most + 2, most*2 - 1, most * 2, 1<<62 - 1, 1 << 62, 1<<62 + 1, math.MaxInt - 1, math.MaxInt}
}

// kept are the hashes of all nodes that New tells of leaves, each of its leaves' hashes.
func kept(t *testing.T, l []string) map[Pos]string {
	t.Helper()
	out := map[Pos]string{}
	for n := range l {
		news, e := New(n)
		if e != api.OK {
			t.Fatal(n, e)
		}
		for _, p := range news {
			if _, ok := out[p]; ok {
				t.Fatal("twice: ", p)
			}
			if r := of(p); r.hi != n+1 {
				t.Fatalf("leaf %d: %v", n, p)
			} else {
				out[p] = wantTree(l[r.lo:r.hi])
			}
		}
	}
	return out
}

// fold is Fold of the hashes that are kept.
func fold(t *testing.T, of map[Pos]string, l []Pos) string {
	t.Helper()
	var hashes []string
	for _, p := range l {
		h, ok := of[p]
		if !ok {
			t.Fatal("not kept: ", p)
		}
		hashes = append(hashes, h)
	}
	return Fold(hashes)
}

func folds(t *testing.T, of map[Pos]string, rows [][]Pos) []string {
	t.Helper()
	var out []string
	for _, l := range rows {
		out = append(out, fold(t, of, l))
	}
	return out
}

// Example 1.
func TestExample(t *testing.T) {
	if l, e := New(3); e != api.OK || !slices.Equal(l, pos(0, 3, 1, 1, 2, 0)) {
		t.Error(l, e)
	}
	if l, e := Cover(0, 5); e != api.OK || !slices.Equal(l, pos(2, 0, 0, 4)) {
		t.Error(l, e)
	}
	two, _ := Cover(0, 2)
	if l, e := PathNodes(2, 3); e != api.OK || !same(l, [][]Pos{two}) || !same(l, [][]Pos{pos(1, 0)}) {
		t.Error(l, e)
	}
}

// P17.1 to P17.3: answers that were written out by hand; those of 7 leaves are RFC 6962's own example.
func TestKnown(t *testing.T) {
	for size, want := range map[int][]Pos{
		0: pos(0, 0), 1: pos(0, 1, 1, 0), 2: pos(0, 2), 5: pos(0, 5, 1, 2), 6: pos(0, 6), 11: pos(0, 11, 1, 5, 2, 2), most - 2: pos(0, most-2),
	} {
		if l, e := New(size); e != api.OK || !slices.Equal(l, want) {
			t.Error("New", size, l, e)
		}
	}
	for r, want := range map[row][]Pos{
		{0, 1}: pos(0, 0), {9, 10}: pos(0, 9), {0, 7}: pos(2, 0, 1, 2, 0, 6), {8, 15}: pos(2, 2, 1, 6, 0, 14), {6, 8}: pos(1, 3),
		{0, most}: pos(40, 0), {most - 1, most}: pos(0, most-1), {most / 2, most}: pos(39, 1), {most / 2, most/2 + 5}: pos(2, 1<<37, 0, most/2+4),
	} {
		if l, e := Cover(r.lo, r.hi); e != api.OK || !slices.Equal(l, want) {
			t.Error("Cover", r, l, e)
		}
	}
	for r, want := range map[row][][]Pos{
		{0, 1}: nil, {0, 2}: {pos(0, 1)}, {1, 2}: {pos(0, 0)},
		{0, 7}: {pos(0, 1), pos(1, 1), pos(1, 2, 0, 6)}, {3, 7}: {pos(0, 2), pos(1, 0), pos(1, 2, 0, 6)},
		{4, 7}: {pos(0, 5), pos(0, 6), pos(2, 0)}, {6, 7}: {pos(1, 2), pos(2, 0)},
	} {
		if l, e := PathNodes(r.lo, r.hi); e != api.OK || !same(l, want) {
			t.Error("PathNodes", r, l, e)
		}
	}
	for r, want := range map[row][][]Pos{
		{1, 1}: nil, {7, 7}: nil, {most, most}: nil, {1, 2}: {pos(0, 1)},
		{3, 7}: {pos(0, 2), pos(0, 3), pos(1, 0), pos(1, 2, 0, 6)}, {4, 7}: {pos(1, 2, 0, 6)}, {6, 7}: {pos(1, 2), pos(0, 6), pos(2, 0)},
		{most / 2, most}: {pos(39, 1)}, {most / 2, most/2 + 1}: {pos(0, most/2)},
	} {
		if l, e := ProofNodes(r.lo, r.hi); e != api.OK || !same(l, want) {
			t.Error("ProofNodes", r, l, e)
		}
	}
}

// P17.1, P17.5: the nodes of the leaves so far are each node that stands for some of them, once.
func TestNew(t *testing.T) {
	seen := map[Pos]int{}
	for n := range 600 {
		l, e := New(n)
		if want, _ := wantNew(n); e != api.OK || !slices.Equal(l, want) {
			t.Fatal(n, l, e)
		}
		for _, p := range l {
			seen[p]++
		}
		all := 0
		for level := 0; 1<<level <= n+1; level++ {
			for i := range (n + 1) >> level {
				if seen[Pos{level, i}] != 1 {
					t.Fatalf("%d leaves: level %d, index %d: %d times", n+1, level, i, seen[Pos{level, i}])
				}
				all++
			}
		}
		if len(seen) != all {
			t.Fatalf("%d leaves: %d nodes, asked for %d", n+1, len(seen), all)
		}
	}
}

// P17.1: the last leaf makes a node of each level whole, up to that of all; behind it there is none.
func TestNewLast(t *testing.T) {
	l, e := New(most - 1)
	if e != api.OK || len(l) != 41 {
		t.Fatal(l, e)
	}
	for level, p := range l {
		if p.Level != level || of(p).hi != most {
			t.Error(level, p)
		}
	}
	for _, n := range []int{most, most + 1, -1, math.MinInt, math.MaxInt} {
		if l, e := New(n); e != api.ErrRange || len(l) > 0 {
			t.Error(n, l, e)
		}
	}
}

// P17.2: each row of leaves, those that go over a border among them.
func TestCover(t *testing.T) {
	for lo := -3; lo < 140; lo++ {
		for hi := -3; hi < 140; hi++ {
			want, f := wantCover(lo, hi)
			got, e := Cover(lo, hi)
			if e != f || !slices.Equal(got, want) {
				t.Fatalf("Cover(%d, %d): %v, %d; asked for %v, %d", lo, hi, got, e, want, f)
			}
			at := lo
			for _, p := range got {
				if of(p).lo != at {
					t.Fatalf("Cover(%d, %d): %v", lo, hi, got)
				}
				at = of(p).hi
			}
			if e == api.OK && at != hi {
				t.Fatalf("Cover(%d, %d): %v", lo, hi, got)
			}
		}
	}
}

// P17.2: the borders of what may be, one by one.
func TestCoverWrong(t *testing.T) {
	for _, r := range []row{
		{-1, 0}, {-1, 1}, {-4, 4}, {-8, -4}, {math.MinInt, math.MaxInt}, {math.MinInt, 0}, {math.MinInt, 1}, {0, math.MinInt}, {0, -1},
		{0, 0}, {5, 5}, {most, most}, {6, 5}, {most, 0}, {math.MaxInt, math.MinInt}, {math.MaxInt, math.MaxInt},
		{0, most + 1}, {most, most + 1}, {most - 1, most + 1}, {0, most * 2}, {0, math.MaxInt}, {most, most * 2}, {math.MaxInt - 1, math.MaxInt},
		{1, 3}, {2, 5}, {4, 9}, {4, 10}, {1, most}, {2, most}, {most / 2, most/2 + most/2 + 1}, {most / 4, most/4 + most/4 + 1}, {most / 4, most},
	} {
		if l, e := Cover(r.lo, r.hi); e != api.ErrRange || len(l) > 0 {
			t.Error(r, l, e)
		}
	}
	for _, r := range []row{{0, most}, {0, most - 1}, {most / 2, most}, {most / 4, most / 2}, {most / 2, most - 1}, {most - 1, most}, {most - 2, most}, {most - 4, most - 1}} {
		want, _ := wantCover(r.lo, r.hi)
		if l, e := Cover(r.lo, r.hi); e != api.OK || !slices.Equal(l, want) {
			t.Error(r, l, e)
		}
	}
}

// P17.1 to P17.4, R2: all pairs of small numbers, and of such as lie at the borders.
func TestPairs(t *testing.T) {
	for a := -2; a < 80; a++ {
		for b := -2; b < 80; b++ {
			holds(t, a, b)
		}
	}
	l := numbers()
	for _, a := range l {
		for _, b := range l {
			holds(t, a, b)
		}
	}
	for _, n := range l {
		for d := -3; d <= 3; d++ {
			holds(t, n+d, n)
		}
	}
}

// P17.3: what is no place of a tree.
func TestPathWrong(t *testing.T) {
	for _, r := range []row{{0, 0}, {-1, 0}, {-1, 1}, {1, 1}, {2, 1}, {7, 7}, {8, 7}, {-1, 7}, {most, most}, {most + 1, most}, {0, most + 1}, {most, most + 1}, {0, -1}, {-2, -1}, {math.MinInt, math.MinInt}, {0, math.MinInt}, {math.MaxInt, math.MinInt}, {0, math.MaxInt}, {math.MinInt, 1}, {math.MaxInt, 1}} {
		if l, e := PathNodes(r.lo, r.hi); e != api.ErrRange || len(l) > 0 {
			t.Error("PathNodes", r, l, e)
		}
	}
	for _, r := range []row{{0, 0}, {0, 1}, {0, 7}, {-1, 7}, {2, 1}, {8, 7}, {most + 1, most}, {most + 1, most + 1}, {1, most + 1}, {most, most + 1}, {1, 0}, {1, -1}, {-1, -1}, {-2, -1}, {math.MinInt, math.MinInt}, {math.MinInt, 1}, {math.MaxInt, math.MaxInt}, {1, math.MaxInt}, {math.MaxInt, math.MinInt}} {
		if l, e := ProofNodes(r.lo, r.hi); e != api.ErrRange || len(l) > 0 {
			t.Error("ProofNodes", r, l, e)
		}
	}
	for _, r := range []row{{0, 1}, {0, most}, {most - 1, most}} {
		if _, e := PathNodes(r.lo, r.hi); e != api.OK {
			t.Error("PathNodes", r, e)
		}
	}
	for _, r := range []row{{1, 1}, {1, most}, {most - 1, most}, {most, most}} {
		if _, e := ProofNodes(r.lo, r.hi); e != api.OK {
			t.Error("ProofNodes", r, e)
		}
	}
}

// P17.3, P17.5: paths and proofs made of nodes that are kept are package hash's, hash by hash, and are taken by who checks.
func TestKept(t *testing.T) {
	l := leaves(75)
	of := kept(t, l)
	roots := []string{wantTree(nil)}
	for n := 1; n <= len(l); n++ {
		all, e := Cover(0, n)
		if e != api.OK {
			t.Fatal(n, e)
		}
		root := fold(t, of, all)
		if root != hash.Root(l[:n]) || root != wantTree(l[:n]) {
			t.Fatalf("root of %d: %x", n, root)
		}
		roots = append(roots, root)
		for i := range n {
			rows, _ := PathNodes(i, n)
			path := folds(t, of, rows)
			if want, _ := hash.Path(l[:n], i); !slices.Equal(path, want) {
				t.Fatalf("path of %d in %d: %v", i, n, rows)
			}
			if e := hash.CheckPath(l[i], i, n, path, root); e != api.OK {
				t.Fatal("path", i, n, e)
			}
		}
		for m := 1; m <= n; m++ {
			rows, _ := ProofNodes(m, n)
			proof := folds(t, of, rows)
			if want, _ := hash.Proof(l[:n], m); !slices.Equal(proof, want) {
				t.Fatalf("proof of %d in %d: %v", m, n, rows)
			}
			if e := hash.CheckProof(m, n, proof, roots[m], root); e != api.OK {
				t.Fatal("proof", m, n, e)
			}
		}
	}
}

// P17.5: of the first n leaves no node is asked for that New has not told by then.
func TestKeptByThen(t *testing.T) {
	told := map[Pos]int{}
	for n := 1; n <= 70; n++ {
		news, _ := New(n - 1)
		for _, p := range news {
			told[p]++
		}
		for i := range n {
			rows, _ := PathNodes(i, n)
			more, _ := ProofNodes(i+1, n)
			for _, p := range slices.Concat(slices.Concat(rows...), slices.Concat(more...)) {
				if told[p] != 1 {
					t.Fatalf("%d of %d: %v, told %d times", i, n, p, told[p])
				}
			}
		}
	}
}

// P17.4, P17.5: Fold of the nodes that Cover tells is the root of these leaves, wherever they begin.
func TestFoldCover(t *testing.T) {
	l := leaves(64)
	of := kept(t, l)
	for lo := range 64 {
		for hi := lo + 1; hi <= 64; hi++ {
			c, e := Cover(lo, hi)
			if e != api.OK {
				continue
			}
			if got := fold(t, of, c); got != hash.Root(l[lo:hi]) || got != wantTree(l[lo:hi]) {
				t.Errorf("%d to %d: %x", lo, hi, got)
			}
		}
	}
}

// P17.5: the nodes of package span are those that Cover tells from the first leaf on.
func TestSpan(t *testing.T) {
	l := leaves(130)
	of := kept(t, l)
	for n := 1; n <= len(l); n++ {
		s, _ := span.Of(l[:n])
		c, _ := Cover(0, n)
		var hashes []string
		for _, p := range c {
			hashes = append(hashes, of[p])
		}
		if r, _ := span.Root(s); !slices.Equal(s.Nodes, hashes) || Fold(s.Nodes) != r {
			t.Fatal(n, c)
		}
	}
}

// P17.4: any texts, in their order.
func TestFold(t *testing.T) {
	h := leaves(40)
	for n := range len(h) + 1 {
		if got := Fold(h[:n]); got != wantFold(h[:n]) {
			t.Errorf("%d: %x", n, got)
		}
	}
	for _, l := range [][]string{nil, {}} {
		if got := Fold(l); hex.EncodeToString([]byte(got)) != "e3b0c44298fc1c149afbf4c8996fb92427ae41e4649b934ca495991b7852b855" {
			t.Errorf("%x", got)
		}
	}
	for _, l := range [][]string{{""}, {"a"}, {"", ""}, {"a", ""}, {"", "a"}, {"ab", "c"}, {"a", "bc"}, {"\x00", "\x01", "\xff\xfe"}, {h[0], ""}, {"", h[0], h[1]}, {h[0], h[0], h[0]}, {h[0][:31], h[1] + "x", strings.Repeat("y", 5000)}} {
		if got := Fold(l); got != wantFold(l) {
			t.Errorf("%q: %x", l, got)
		}
	}
	a, b, c := h[0], h[1], h[2]
	if Fold([]string{a}) != a || Fold([]string{a, b}) != hash.Node(a, b) || Fold([]string{a, b, c}) != hash.Node(a, hash.Node(b, c)) {
		t.Error("few")
	}
}

// P17.4: a long list ends, too.
func TestFoldLong(t *testing.T) {
	l := slices.Repeat(leaves(3), 30000)
	want := l[len(l)-1]
	for i := len(l) - 2; i >= 0; i-- {
		want = sum("\x01", l[i], want)
	}
	if got := Fold(l); got != want {
		t.Errorf("%x", got)
	}
}

// A huge is a tree of as many leaves as may be, all of them alike but one.
type huge struct {
	at    int
	plain []string
	with  []string
}

// newHuge reckons its nodes, level by level.
func newHuge(at int) huge {
	h := huge{at: at, plain: []string{sum("\x00plain")}, with: []string{sum("\x00with")}}
	for level := range 40 {
		p, w := h.plain[level], h.with[level]
		h.plain = append(h.plain, sum("\x01", p, p))
		if at>>level&1 == 1 {
			h.with = append(h.with, sum("\x01", p, w))
		} else {
			h.with = append(h.with, sum("\x01", w, p))
		}
	}
	return h
}

// node is the hash of one of them.
func (h huge) node(p Pos) string {
	if r := of(p); r.lo <= h.at && h.at < r.hi {
		return h.with[p.Level]
	}
	return h.plain[p.Level]
}

func (h huge) fold(l []Pos) string {
	var hashes []string
	for _, p := range l {
		hashes = append(hashes, h.node(p))
	}
	return Fold(hashes)
}

func (h huge) folds(rows [][]Pos) []string {
	var out []string
	for _, l := range rows {
		out = append(out, h.fold(l))
	}
	return out
}

// root is that of the first n leaves.
func (h huge) root(t *testing.T, n int) string {
	t.Helper()
	l, e := Cover(0, n)
	if e != api.OK {
		t.Fatal(n, e)
	}
	return h.fold(l)
}

// proves fails, unless the nodes of a path and of a proof are taken by who checks.
func (h huge) proves(t *testing.T, index, n int) {
	t.Helper()
	rows, e := PathNodes(index, n)
	if e != api.OK {
		t.Fatal(index, n, e)
	}
	root := h.root(t, n)
	if e := hash.CheckPath(h.node(Pos{0, index}), index, n, h.folds(rows), root); e != api.OK {
		t.Errorf("path of %d in %d, the other one at %d: %d", index, n, h.at, e)
	}
	if rows, e = ProofNodes(index+1, n); e != api.OK {
		t.Fatal(index, n, e)
	}
	if e := hash.CheckProof(index+1, n, h.folds(rows), h.root(t, index+1), root); e != api.OK {
		t.Errorf("proof of %d in %d, the other one at %d: %d", index+1, n, h.at, e)
	}
}

// P17.5: in trees of up to 2^40 leaves, too, paths and proofs of these nodes are taken.
func TestHuge(t *testing.T) {
	r := rand.New(rand.NewPCG(17, 3))
	sizes := []int{1 << 20, most / 2, most/2 + 1, most - 1, most, 0x5555555555, 0xAAAAAAAAAA, 0xFFFF00FFFF}
	for range 60 {
		sizes = append(sizes, 1+r.IntN(1<<(1+r.IntN(40))))
	}
	for _, n := range sizes {
		places := []int{0, n / 2, n - 1, r.IntN(n), r.IntN(n)}
		for _, at := range places {
			h := newHuge(at)
			for _, i := range append(places, min(at+1, n-1)) {
				h.proves(t, i, n)
			}
		}
	}
}

// P17.1 to P17.3: walks over numbers of all lengths.
func TestWalk(t *testing.T) {
	r := rand.New(rand.NewPCG(17, 1))
	some := func() int { return r.IntN(1<<(r.IntN(41)+1)) - 1 }
	for range 6000 {
		a, b := some(), some()
		holds(t, a, b)
		holds(t, min(a, b), most)
		least := 1
		for least < b {
			least *= 2
		}
		lo := a / least * least
		holds(t, lo, lo+b)
	}
}

// R1: no number is too odd, alone and beside others.
func TestOdd(t *testing.T) {
	l := append(odd(), 1, 2, 3, 7, 8, most-2, most-1, most)
	for _, a := range l {
		for _, b := range l {
			holds(t, a, b)
		}
	}
}

// R3: what is handed in stays, also where there is room behind it.
func TestHandedIn(t *testing.T) {
	room := leaves(20)
	before := slices.Clone(room)
	for n := range 12 {
		Fold(room[:n])
		Fold(room[3 : 3+n])
		if !slices.Equal(room, before) {
			t.Fatal(n)
		}
	}
}

// R3: what is answered is new memory: no two lists of one answer share any, nor do two answers.
func TestNewMemory(t *testing.T) {
	spoil := func(l []Pos) {
		for i := range l[:cap(l)] {
			l[:cap(l)][i] = Pos{-7, -7}
		}
	}
	for _, n := range []int{1, 3, 7, 75, 0x5555555555, most - 1} {
		one, _ := New(n - 1)
		spoil(one)
		one, _ = Cover(0, n)
		spoil(one)
		paths, _ := PathNodes(n/3, n)
		proofs, _ := ProofNodes(n/3+1, n)
		want, _ := wantPath(n/3, n)
		also, _ := wantProof(n/3+1, n)
		for i := range paths {
			spoil(paths[i])
			if !same(paths[i+1:], want[i+1:]) {
				t.Error("a path's lists share memory", n, i)
			}
		}
		for i := range proofs {
			spoil(proofs[i])
			if !same(proofs[i+1:], also[i+1:]) {
				t.Error("a proof's lists share memory", n, i)
			}
		}
		for _, rows := range [][][]Pos{paths, proofs} {
			for i := range rows[:cap(rows)] {
				rows[:cap(rows)][i] = nil
			}
		}
		holds(t, n-1, n)
		holds(t, n/3, n)
		holds(t, n/3+1, n)
		holds(t, 0, n)
	}
}

// Many may ask at once: nothing is kept.
func TestAtOnce(t *testing.T) {
	l := leaves(9)
	want := wantFold(l)
	var all sync.WaitGroup
	for k := range 8 {
		all.Go(func() {
			for i := range 300 {
				n := 1 + (i*7919+k)%5000
				holds(t, i%n, n)
				holds(t, 0, n)
			}
			if Fold(l) != want {
				t.Error("Fold")
			}
		})
	}
	all.Wait()
}

// FuzzTile holds all calls against the chapters' words, and paths and proofs of small trees against package hash.
func FuzzTile(f *testing.F) {
	for _, r := range []row{{0, 5}, {2, 3}, {3, 7}, {8, 14}, {4, 10}, {-1, 2}, {0, most}, {most - 1, most}, {most / 2, most}, {math.MinInt, math.MaxInt}} {
		f.Add(r.lo, r.hi)
	}
	l := leaves(128)
	f.Fuzz(func(t *testing.T, a, b int) {
		holds(t, a, b)
		holds(t, a&(most-1), b&(most-1))
		n := b&127 + 1
		i := (a & 127) * n / 128
		h := newHuge(a & (most - 1))
		h.proves(t, (a&(most-1))%(b&(most-1)+1), b&(most-1)+1)
		of := kept(t, l[:n])
		rows, _ := PathNodes(i, n)
		if want, _ := hash.Path(l[:n], i); !slices.Equal(folds(t, of, rows), want) {
			t.Errorf("path of %d in %d: %v", i, n, rows)
		}
		rows, _ = ProofNodes(i+1, n)
		if want, _ := hash.Proof(l[:n], i+1); !slices.Equal(folds(t, of, rows), want) {
			t.Errorf("proof of %d in %d: %v", i+1, n, rows)
		}
	})
}
