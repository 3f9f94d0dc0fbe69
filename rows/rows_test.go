package rows

import (
	"bytes"
	"encoding/hex"
	"fmt"
	"math"
	"math/rand/v2"
	"reflect"
	"slices"
	"strings"
	"sync"
	"testing"

	"sawyer/api"
	"sawyer/key"
	"sawyer/sha"
	"sawyer/txn"
)

// The chapter's example, and what a later transaction sees of it.
func TestExample(t *testing.T) {
	b := newBoth(t)
	for want := 1; want <= 2; want++ {
		if n, f := b.fresh(); n != want || f != api.OK {
			t.Fatal(n, f)
		}
	}
	b = b.again()
	if n, f := b.fresh(); n != 3 || f != api.OK {
		t.Fatal(n, f)
	}
}

// unhex are bytes written as digits, with blanks between.
func unhex(t *testing.T, s string) string {
	t.Helper()
	b, err := hex.DecodeString(strings.ReplaceAll(s, " ", ""))
	if err != nil {
		t.Fatal(err)
	}
	return string(b)
}

// P18.1: a tree's bytes, reckoned by hand.
func TestTreeKnown(t *testing.T) {
	k := strings.Repeat("k", 32)
	name := strings.Repeat("\xff\x00", 50)
	for _, x := range []struct {
		tree Tree
		want string
	}{
		{Tree{1, 1, 0, "n", k}, unhex(t, "01 01 00 01 6e 20") + k},
		{Tree{2, 2, 127, "ab", k}, unhex(t, "02 02 7f 02 61 62 20") + k},
		{Tree{63, 3, 128, "\x00", k}, unhex(t, "3f 03 80 01 01 00 20") + k},
		{Tree{64, 3, 1000, name, k}, unhex(t, "40 03 e8 07 64") + name + " " + k},
	} {
		if b, f := EncodeTree(x.tree); f != api.OK || string(b) != x.want {
			t.Errorf("%s: %x %d", short(x.tree), b, f)
		}
		if got, f := DecodeTree([]byte(x.want)); f != api.OK || got != x.tree {
			t.Errorf("%x: %s %d", x.want, short(got), f)
		}
	}
}

// P18.1: a head's bytes, reckoned by hand: Root and Sig go ahead of the nodes, without their lengths.
func TestHeadKnown(t *testing.T) {
	r, s, n := strings.Repeat("r", 32), strings.Repeat("s", 32), strings.Repeat("n", 32)
	for _, x := range []struct {
		head Head
		want string
	}{
		{Head{Root: r, Sig: s}, unhex(t, "00 00 00") + r + s},
		{Head{Size: 1, Root: r, Tick: 2, Epoch: 3, Nodes: []string{n}, Sig: s}, unhex(t, "01 02 03") + r + s + n},
		{Head{Size: 5, Root: r, Tick: 300, Epoch: 128, Nodes: []string{n, s}, Sig: s}, unhex(t, "05 ac 02 80 01") + r + s + n + s},
		{Head{Size: 1 << 40, Root: r, Tick: 1 << 40, Epoch: 1<<40 - 1, Nodes: []string{n}, Sig: s}, unhex(t, "80 80 80 80 80 20 80 80 80 80 80 20 ff ff ff ff ff 1f") + r + s + n},
	} {
		if b, f := EncodeHead(x.head); f != api.OK || string(b) != x.want {
			t.Errorf("%s: %x %d", short(x.head), b, f)
		}
		if got, f := DecodeHead([]byte(x.want)); f != api.OK || !sameHead(got, x.head) {
			t.Errorf("%x: %s %d", x.want, short(got), f)
		}
	}
}

// P18.1, P18.3, P18.4: keys and values of all rows, reckoned by hand.
func TestRowsKnown(t *testing.T) {
	b := newBoth(t)
	h := strings.Repeat("h", 32)
	b.fresh()
	b.putTree(Tree{2, 1, 300, "n", h})
	b.putCount(2, Count{Next: 300, Pending: 5})
	b.putHead(2, Head{Size: 2, Root: h, Tick: 7, Epoch: 9, Nodes: []string{h}, Sig: h})
	b.putLease(64, Lease{Who: 1000, Epoch: 1, Until: 1 << 40})
	want := []string{
		unhex(t, "00 00 00 00 00 00 00 00 00"), unhex(t, "01"),
		unhex(t, "00 00 00 00 00 00 00 02 00"), unhex(t, "02 01 ac 02 01 6e 20") + h,
		unhex(t, "00 00 00 00 00 00 00 02 01"), unhex(t, "ac 02 05"),
		unhex(t, "00 00 00 00 00 00 00 02 06"), unhex(t, "02 07 09") + h + h + h,
		unhex(t, "00 00 00 00 00 00 00 40 07"), unhex(t, "e8 07 01 80 80 80 80 80 20"),
	}
	l := b.x.Scan(nil, nil)
	if len(l)*2 != len(want) {
		t.Fatal(len(l), "rows")
	}
	for i, r := range l {
		if string(r.Key) != want[2*i] || string(r.Value) != want[2*i+1] {
			t.Errorf("row %d: %x: %x, not %x: %x", i, r.Key, r.Value, want[2*i], want[2*i+1])
		}
	}
}

// encodesTree fails, unless a tree is encoded, and its bytes decoded, as they should be.
func encodesTree(t *testing.T, x Tree) {
	t.Helper()
	b, f := EncodeTree(x)
	if !treeOK(x) {
		if f != api.ErrArg || len(b) > 0 {
			t.Fatalf("EncodeTree of %s: %x %d", short(x), b, f)
		}
		return
	}
	if f != api.OK || string(b) != treeBytes(x) {
		t.Fatalf("EncodeTree of %s: %x %d", short(x), b, f)
	}
	if got, f := DecodeTree(b); f != api.OK || got != x {
		t.Fatalf("DecodeTree of %s: %s %d", short(x), short(got), f)
	}
}

func encodesHead(t *testing.T, h Head) {
	t.Helper()
	b, f := EncodeHead(h)
	if !headOK(h) {
		if f != api.ErrArg || len(b) > 0 {
			t.Fatalf("EncodeHead of %s: %x %d", short(h), b, f)
		}
		return
	}
	if f != api.OK || string(b) != headBytes(h) {
		t.Fatalf("EncodeHead of %s: %x %d", short(h), b, f)
	}
	if got, f := DecodeHead(b); f != api.OK || !sameHead(got, h) {
		t.Fatalf("DecodeHead of %s: %s %d", short(h), short(got), f)
	}
}

// decodesTree fails, unless bytes are decoded as the other reader has them.
func decodesTree(t *testing.T, b string) {
	t.Helper()
	want, ok := readTree(b)
	got, f := DecodeTree([]byte(b))
	if got != want || ok != (f == api.OK) || !ok && f != api.ErrCorrupt {
		t.Fatalf("DecodeTree of %x: %s %d, not %s %v", b, short(got), f, short(want), ok)
	}
}

func decodesHead(t *testing.T, b string) {
	t.Helper()
	want, ok := readHead(b)
	got, f := DecodeHead([]byte(b))
	if !sameHead(got, want) || ok != (f == api.OK) || !ok && f != api.ErrCorrupt {
		t.Fatalf("DecodeHead of %x: %s %d, not %s %v", b, short(got), f, short(want), ok)
	}
}

// P18.1: which trees may be: all edges, and all of them with one another.
func TestTreeMayBe(t *testing.T) {
	states := []int{0, 1, 2, 3, 4, -1, 255, 257, math.MinInt, math.MaxInt}
	quotas := []int{0, 1, 10, 999, 1000, 1001, -1, 1 << 32, math.MinInt, math.MaxInt}
	names := []string{"", "\x00", "ab", strings.Repeat("n", 99), strings.Repeat("\xff", 100), strings.Repeat("n", 101), strings.Repeat("n", 70000)}
	keys := append(oddTexts(), hash(1), strings.Repeat("\x00", 32), strings.Repeat("\xff", 32))
	for _, id := range append(oddIds(), 1, 2, 31, 63, 64) {
		for _, state := range states {
			for _, quota := range quotas {
				for _, name := range names {
					for _, k := range keys {
						encodesTree(t, Tree{id, state, quota, name, k})
					}
				}
			}
		}
	}
	for id := range 70 {
		encodesTree(t, Tree{id, 1, 1, "n", hash(0)})
	}
	for quota := range 1100 {
		encodesTree(t, Tree{1, 1, quota, "n", hash(0)})
	}
	for n := range 200 {
		encodesTree(t, Tree{1, 1, 1, strings.Repeat("n", n), hash(0)})
		encodesTree(t, Tree{1, 1, 1, "n", strings.Repeat("n", n)})
	}
}

// headSizes are sizes with their ones in all manners of places.
func headSizes() []int {
	out := []int{0x5555555555, 0xAAAAAAAAAA, 0xFFFF00FFFF, most - 2, most - 1, most}
	for n := range 70 {
		out = append(out, n)
	}
	for k := 7; k < 40; k++ {
		out = append(out, 1<<k-1, 1<<k, 1<<k+1, most-1<<k, most-1-1<<k)
	}
	return out
}

// P18.1: which numbers a head may have.
func TestHeadNumbers(t *testing.T) {
	for _, size := range append(edges(), headSizes()...) {
		for _, tick := range edges() {
			for _, epoch := range edges() {
				h := Head{Size: size, Root: hash(1), Tick: tick, Epoch: epoch, Nodes: hashes(ones(size)), Sig: hash(2)}
				encodesHead(t, h)
			}
		}
	}
	for _, size := range []int{-1, -2, math.MinInt, most + 1, 1 << 41, math.MaxInt} {
		for n := range 70 { // as many as it has ones as an unsigned number, too
			h := Head{Size: size, Root: hash(1), Nodes: hashes(n), Sig: hash(2)}
			if b, f := EncodeHead(h); f != api.ErrArg || len(b) > 0 {
				t.Fatal(size, n, f)
			}
		}
	}
}

// P18.1: as many nodes as the size has ones, no other number of them.
func TestHeadNodes(t *testing.T) {
	all := hashes(64)
	for _, size := range headSizes() {
		for n := range len(all) {
			h := Head{Size: size, Root: hash(1), Nodes: all[:n], Sig: hash(2)}
			encodesHead(t, h)
			decodesHead(t, headBytes(h))
		}
	}
	encodesHead(t, Head{Root: hash(1), Nodes: []string{}, Sig: hash(2)})
	encodesHead(t, Head{Size: 1000, Root: hash(1), Nodes: slices.Repeat(all, 20), Sig: hash(2)})
}

// P18.1: each text of a head has 32 bytes.
func TestHeadTexts(t *testing.T) {
	for _, size := range headSizes() {
		for _, odd := range oddTexts() {
			h := aHead(size)
			h.Root = odd
			encodesHead(t, h)
			h = aHead(size)
			h.Sig = odd
			encodesHead(t, h)
			h.Root, h.Sig = hash(1)+odd, odd
			encodesHead(t, h)
			for i := range ones(size) {
				h = aHead(size)
				h.Nodes[i] = odd
				encodesHead(t, h)
			}
		}
	}
	h := aHead(3) // in all as long as it should be
	h.Root, h.Sig = h.Root[:31], h.Sig+"x"
	encodesHead(t, h)
	h = aHead(3)
	h.Nodes[0], h.Nodes[1] = h.Nodes[0]+"x", h.Nodes[1][1:]
	encodesHead(t, h)
	for _, s := range []string{strings.Repeat("\x00", 32), strings.Repeat("\xff", 32)} {
		encodesHead(t, Head{Size: 6, Root: s, Nodes: []string{s, s}, Sig: s})
	}
}

// P18.1: bytes with faults are what the other reader says.
func TestDecodeTurned(t *testing.T) {
	for _, id := range []int{1, 2, 13, 63, 64} {
		for _, b := range turned(treeBytes(aTree(id))) {
			decodesTree(t, b)
		}
	}
	for _, size := range []int{0, 1, 3, 5, 127, 128, 300, 1 << 20, most - 1, most} {
		for _, b := range turned(headBytes(aHead(size))) {
			decodesHead(t, b)
		}
	}
}

// P18.1: bytes cut off, and such with more behind them, are none.
func TestDecodeCut(t *testing.T) {
	for _, id := range allIds() {
		b := treeBytes(aTree(id))
		for i := range b {
			if x, f := DecodeTree([]byte(b[:i])); f != api.ErrCorrupt || x != (Tree{}) {
				t.Fatal(id, i, f)
			}
		}
		for n := 1; n < 70; n++ {
			if x, f := DecodeTree([]byte(b + strings.Repeat("\x00", n))); f != api.ErrCorrupt || x != (Tree{}) {
				t.Fatal(id, n, f)
			}
		}
	}
	for _, size := range headSizes() {
		b := headBytes(aHead(size))
		for i := range b {
			if h, f := DecodeHead([]byte(b[:i])); f != api.ErrCorrupt || !sameHead(h, Head{}) {
				t.Fatal(size, i, f)
			}
		}
		for n := 1; n < 70; n++ {
			if h, f := DecodeHead([]byte(b + strings.Repeat("\x00", n))); f != api.ErrCorrupt || !sameHead(h, Head{}) {
				t.Fatal(size, n, f)
			}
		}
	}
	for _, b := range [][]byte{nil, {}, {0}, {255}, make([]byte, 1<<20), bytes.Repeat([]byte{255}, 1<<20), bytes.Repeat([]byte{1}, 1<<20)} {
		if x, f := DecodeTree(b); f != api.ErrCorrupt || x != (Tree{}) {
			t.Fatal(len(b), f)
		}
		if h, f := DecodeHead(b); f != api.ErrCorrupt || !sameHead(h, Head{}) {
			t.Fatal(len(b), f)
		}
	}
}

// P18.1: a number has one row of bytes, and must be one that may be.
func TestDecodeNumbers(t *testing.T) {
	hashes2 := hash(1) + hash(2)
	numbers := []string{"\x80\x00", "\x81\x00", "\x81\x80\x00", "\x80\x80\x80\x80\x80\x80\x80\x80\x00", strings.Repeat("\x80", 20) + "\x01", "\xff\xff\xff\xff\xff\xff\xff\xff\x7f", "\x80"}
	for _, n := range edges() {
		numbers = append(numbers, nums(n))
	}
	for _, n := range numbers {
		for _, other := range []string{"\x00", "\x01"} {
			for _, nodes := range []string{"", hash(3), hash(3) + hash(4), strings.Repeat(hash(3), 40), strings.Repeat(hash(3), 62)} {
				decodesHead(t, n+other+other+hashes2+nodes)
				decodesHead(t, other+n+other+hashes2+nodes)
				decodesHead(t, other+other+n+hashes2+nodes)
			}
			decodesTree(t, n+other+other+text("n")+text(hash(1)))
			decodesTree(t, "\x01"+n+other+text("n")+text(hash(1)))
			decodesTree(t, "\x01"+"\x01"+n+text("n")+text(hash(1)))
			decodesTree(t, "\x01"+"\x01"+other+n+"n"+text(hash(1)))
			decodesTree(t, "\x01"+"\x01"+other+text("n")+n+hash(1))
			for k := range 3 {
				row := []string{other, other, other}
				row[k] = n
				b := newBoth(t)
				b.raw(at(1, 7), strings.Join(row, "")).getLease(1)
				b.raw(at(1, 1), strings.Join(row[:2], "")).getCount(1)
				b.raw(at(1, 1), strings.Join(row[1:], "")).getCount(1)
			}
			b := newBoth(t)
			b.raw(at(0, 0), n).fresh()
		}
	}
	for n := range 300 { // lengths of texts, with as many bytes
		decodesTree(t, "\x01\x01\x01"+text(strings.Repeat("n", n))+text(hash(1)))
		decodesTree(t, "\x01\x01\x01"+text("n")+text(strings.Repeat("k", n)))
	}
	for n := range 5 { // a state, and what is around it
		decodesTree(t, nums(1, n, 1)+text("n")+text(hash(1)))
	}
	for n := range 70 {
		decodesTree(t, nums(n, 1, 1)+text("n")+text(hash(1)))
	}
	for n := range 1100 {
		decodesTree(t, nums(1, 1, n)+text("n")+text(hash(1)))
	}
}

// signs fails, unless a head is signed as Go's own library does it.
func signs(t *testing.T, x Tree, h Head) string {
	t.Helper()
	s := Sign(x, h)
	if s != wantSign(x, h) {
		t.Fatalf("Sign of %s, %s: %x", short(x), short(h), s)
	}
	return s
}

// P18.2: what is signed, reckoned by hand and summed by another layer.
func TestSignKnown(t *testing.T) {
	k, r := strings.Repeat("k", 32), strings.Repeat("r", 32)
	x := Tree{Id: 5, State: 1, Quota: 9, Name: "n", Key: k}
	h := Head{Size: 300, Root: r, Tick: 127, Epoch: 128}
	if s := signs(t, x, h); s != sha.Mac([]byte(k), []byte(unhex(t, "05 ac 02 7f 80 01 20")+r)) {
		t.Errorf("%x", s)
	}
	if s := signs(t, Tree{}, Head{}); s != sha.Mac(nil, make([]byte, 5)) {
		t.Errorf("%x", s)
	}
}

// P18.2: which of a tree's and a head's parts turn the code, and which do not.
func TestSignParts(t *testing.T) {
	x, h := aTree(5), aHead(7)
	was := signs(t, x, h)
	turns := map[string]func(x *Tree, h *Head){
		"Id": func(x *Tree, h *Head) { x.Id++ }, "Key": func(x *Tree, h *Head) { x.Key = hash(9) },
		"Size": func(x *Tree, h *Head) { h.Size++ }, "Tick": func(x *Tree, h *Head) { h.Tick++ },
		"Epoch": func(x *Tree, h *Head) { h.Epoch++ }, "Root": func(x *Tree, h *Head) { h.Root = hash(9) },
		"two numbers": func(x *Tree, h *Head) { h.Tick, h.Epoch = h.Epoch, h.Tick },
		"cut Root":    func(x *Tree, h *Head) { h.Root = h.Root[:31] },
	}
	stays := map[string]func(x *Tree, h *Head){
		"State": func(x *Tree, h *Head) { x.State = 9 }, "Quota": func(x *Tree, h *Head) { x.Quota++ },
		"Name": func(x *Tree, h *Head) { x.Name = "" }, "Nodes": func(x *Tree, h *Head) { h.Nodes = nil },
		"Sig": func(x *Tree, h *Head) { h.Sig = "s" }, "noughts behind Key": func(x *Tree, h *Head) { x.Key += "\x00" },
	}
	for what, turn := range turns {
		y, g := x, h
		turn(&y, &g)
		if signs(t, y, g) == was {
			t.Error(what, "turns nothing")
		}
	}
	for what, turn := range stays {
		y, g := x, h
		turn(&y, &g)
		if signs(t, y, g) != was {
			t.Error(what, "turns it")
		}
	}
}

// P18.2, R4: numbers and texts that may not be are taken as they are, as far as PutNum lays them.
func TestSignAny(t *testing.T) {
	texts := append(oddTexts(), hash(1), strings.Repeat("k", 63), strings.Repeat("k", 64), strings.Repeat("k", 65), strings.Repeat("k", 300))
	for _, n := range edges() {
		for _, m := range edges() {
			signs(t, Tree{Id: n, Key: hash(1)}, Head{Size: m, Root: hash(2)})
			signs(t, Tree{Id: 1, Key: hash(1)}, Head{Tick: n, Epoch: m, Root: hash(2)})
		}
		for _, s := range texts {
			signs(t, Tree{Id: n, Key: s}, Head{Root: hash(2)})
			signs(t, Tree{Id: n, Key: hash(1)}, Head{Root: s})
		}
	}
}

// P18.3, P18.4: a transaction that is none, or has ended: its error, but behind what is asked first.
func TestDown(t *testing.T) {
	ends := map[string]func(x *txn.Txn){
		"Commit":            func(x *txn.Txn) { x.Commit() },
		"Abort":             func(x *txn.Txn) { x.Abort() },
		"Commit of written": func(x *txn.Txn) { PutCount(x, 2, Count{}); x.Commit() },
	}
	for what, end := range ends {
		b := newBoth(t).puts(1, 2).again()
		end(b.x)
		b.m.down = api.ErrDone
		asksDown(t, what, b)
	}
	for _, x := range []*txn.Txn{nil, {}, new(txn.Txn)} {
		b := newBoth(t)
		b.x, b.m.down = x, api.ErrArg
		asksDown(t, "none", b)
	}
}

func asksDown(t *testing.T, what string, b *both) {
	t.Helper()
	for _, a := range askings() {
		if v, f := a.do(b.x); f != b.m.down || !reflect.DeepEqual(v, a.zero) {
			t.Errorf("%s: %s: %v %d", what, a.what, v, f)
		}
	}
	b.gets(append(oddIds(), 1, 2, 3, 64)...)
	if l := Trees(b.x); len(l) > 0 {
		t.Error(what, l)
	}
	b.fresh()
	for _, id := range append(oddIds(), 1, 64) {
		for _, n := range []int{1, -1} {
			b.putTree(Tree{id, n, 1, "n", hash(1)})
			b.putCount(id, Count{n, 1})
			b.putHead(id, Head{Size: 0, Tick: n, Root: hash(1), Sig: hash(1)})
			b.putLease(id, Lease{1, 1, n})
		}
	}
}

// P18.3: GetTree of trees that are there, that are not, and of no tree's number.
func TestGetTree(t *testing.T) {
	b := newBoth(t)
	b.gets(oddIds()...).gets(allIds()...)
	for _, id := range allIds() {
		b.putTree(aTree(id))
		if x, f := b.getTree(id); f != api.OK || x != aTree(id) {
			t.Fatal(id, x, f)
		}
		if _, f := b.getTree(id + 1); f != api.ErrNoTree {
			t.Fatal(id, f)
		}
	}
	b.gets(oddIds()...).gets(allIds()...)
	b = b.again()
	b.gets(oddIds()...).gets(allIds()...)
}

// P18.3: no tree's number is asked for, though a row stands there.
func TestGetTreeOdd(t *testing.T) {
	b := newBoth(t)
	for _, id := range []int{0, 65, 256, most} {
		b.raw(at(id, 0), treeBytes(Tree{1, 1, 1, "n", hash(1)}))
		b.raw(at(id, 1), "\x01\x02").raw(at(id, 6), headBytes(aHead(3))).raw(at(id, 7), "\x01\x02\x03")
	}
	b.gets(oddIds()...).gets(1, 64)
	if l := b.trees(); len(l) > 0 {
		t.Fatal(l)
	}
}

// P18.3: a row that is no tree, and one that is another Id's.
func TestGetTreeCorrupt(t *testing.T) {
	for _, b := range turned(treeBytes(aTree(3))) {
		x := newBoth(t).raw(at(3, 0), b)
		x.gets(3)
		x.x.Abort()
	}
	for id := 1; id <= 64; id++ {
		x := newBoth(t).raw(at(3, 0), treeBytes(aTree(id)))
		if got, f := x.getTree(3); id != 3 && (f != api.ErrCorrupt || got != (Tree{})) {
			t.Fatal(id, got, f)
		}
		x.gets(allIds()...)
	}
}

// P18.3: PutTree refuses what may not be, and leaves what was there.
func TestPutTree(t *testing.T) {
	b := newBoth(t).puts(7)
	for _, x := range []Tree{
		{}, {7, 0, 1, "n", hash(1)}, {7, 4, 1, "n", hash(1)}, {7, 1, -1, "n", hash(1)}, {7, 1, 1001, "n", hash(1)},
		{7, 1, 1, "", hash(1)}, {7, 1, 1, strings.Repeat("n", 101), hash(1)}, {7, 1, 1, "n", ""}, {7, 1, 1, "n", hash(1)[1:]}, {7, 1, 1, "n", hash(1) + "k"},
	} {
		if f := b.putTree(x); f != api.ErrArg {
			t.Fatal(short(x), f)
		}
	}
	for _, id := range oddIds() {
		if f := b.putTree(Tree{id, 1, 1, "n", hash(1)}); f != api.ErrArg {
			t.Fatal(id, f)
		}
	}
	if x, f := b.getTree(7); f != api.OK || x != aTree(7) {
		t.Fatal(x, f)
	}
	for state := 1; state <= 3; state++ { // what stands there is nothing that a Put asks for
		b.putTree(Tree{7, state, state, "m", hash(state)})
		b.gets(7, 6, 8)
	}
	b.raw(at(7, 0), "?").getTree(7)
	if f := b.putTree(aTree(7)); f != api.OK {
		t.Fatal(f)
	}
	b.gets(7)
}

// P18.3: Fresh counts up to 64 trees, in one transaction and in many, whatever trees were Put.
func TestFresh(t *testing.T) {
	one, many := newBoth(t), newBoth(t)
	many.puts(1, 2, 64)
	for want := 1; want <= 64; want++ {
		if n, f := one.fresh(); n != want || f != api.OK {
			t.Fatal(want, n, f)
		}
		if n, f := many.fresh(); n != want || f != api.OK {
			t.Fatal(want, n, f)
		}
		many = many.again()
	}
	for range 3 {
		for _, b := range []*both{one, many} {
			if n, f := b.fresh(); n != 0 || f != api.ErrArg {
				t.Fatal(n, f)
			}
		}
		one = one.again()
	}
}

// P18.3: Fresh at each number that a row may tell, and at rows that are no number.
func TestFreshRow(t *testing.T) {
	for n := range 200 {
		b := newBoth(t).raw(at(0, 0), nums(n))
		b.fresh()
		b.fresh()
	}
	for n, want := range map[int]api.Errno{0: api.OK, 63: api.OK, 64: api.ErrArg, 65: api.ErrArg, most - 1: api.ErrArg, most: api.ErrArg, most + 1: api.ErrCorrupt, 1<<62 - 1: api.ErrCorrupt, math.MaxInt: api.ErrCorrupt} {
		if id, f := newBoth(t).raw(at(0, 0), nums(n)).fresh(); f != want || f == api.OK && id != n+1 || f != api.OK && id != 0 {
			t.Fatal(n, id, f)
		}
	}
	for _, row := range []string{"", "\x80", "\x80\x00", "\x81\x00", "\x01\x00", "\x00\x00", "\x00\x01", "\x40\x00", "\xff", strings.Repeat("\x80", 9) + "\x01", strings.Repeat("\x01", 1024), treeBytes(aTree(1))} {
		b := newBoth(t).raw(at(0, 0), row)
		if n, f := b.fresh(); n != 0 || f != api.ErrCorrupt {
			t.Fatalf("%x: %d %d", row, n, f)
		}
	}
}

// P18.3: a number that was given to one transaction is given to none that was at once with it.
func TestFreshAtOnce(t *testing.T) {
	e, _ := newEngine(t)
	a, b := begin(t, e), begin(t, e)
	a.fresh()
	b.fresh()
	c := begin(t, e)
	c.fresh()
	c.x.Abort()
	if _, f := a.x.Commit(); f != api.OK {
		t.Fatal(f)
	}
	if _, f := b.x.Commit(); f != api.ErrConflict {
		t.Fatal(f)
	}
	if n, f := begin(t, e).fresh(); n != 2 || f != api.OK {
		t.Fatal(n, f)
	}
}

// P18.3: all trees, by Id, in whatever order they were Put; of any state, but none whose row is no tree of that Id.
func TestTrees(t *testing.T) {
	b := newBoth(t)
	if l := b.trees(); len(l) > 0 {
		t.Fatal(l)
	}
	for _, id := range rand.New(rand.NewPCG(18, 2)).Perm(64) {
		b.putTree(aTree(id + 1))
		b.trees()
	}
	l := b.trees()
	for i, x := range l {
		if x != aTree(i+1) {
			t.Fatal(i, x)
		}
	}
	if len(l) != 64 {
		t.Fatal(len(l))
	}
	b = b.again()
	b.trees()
	b.raw(at(5, 0), "?").raw(at(6, 0), treeBytes(aTree(7))).raw(at(64, 0), "")
	if l := b.trees(); len(l) != 61 || l[4].Id != 7 {
		t.Fatal(len(l))
	}
	b.x.Delete([]byte(at(9, 0)))
	delete(b.m.rows, at(9, 0))
	if l := b.trees(); len(l) != 60 {
		t.Fatal(len(l))
	}
}

// P18.4: without a row there are noughts, and a head of no leaves.
func TestNoRow(t *testing.T) {
	b := newBoth(t)
	for range 2 {
		for _, id := range allIds() {
			if c, f := b.getCount(id); f != api.OK || c != (Count{}) {
				t.Fatal(id, c, f)
			}
			if h, f := b.getHead(id); f != api.OK || !sameHead(h, Head{}) {
				t.Fatal(id, h, f)
			}
			if l, f := b.getLease(id); f != api.OK || l != (Lease{}) {
				t.Fatal(id, l, f)
			}
		}
		b = b.puts(65).again()
	}
	for _, id := range allIds() { // other rows of the tree are none of these
		b.putTree(aTree(id))
	}
	b.gets(allIds()...)
	b.x.Delete([]byte(at(1, 1)))
	b.gets(1)
}

// P18.4: all edges of numbers, and which of two errors is told.
func TestPutNumbers(t *testing.T) {
	b := newBoth(t)
	for _, id := range append(oddIds(), 1, 64) {
		for _, n := range edges() {
			for _, m := range edges() {
				b.putCount(id, Count{n, m})
				b.putLease(id, Lease{n, m, 1})
				b.putLease(id, Lease{1, n, m})
				b.putHead(id, Head{Tick: n, Epoch: m, Root: hash(1), Sig: hash(2)})
			}
			b.gets(id)
		}
	}
	for _, id := range oddIds() {
		for what, f := range map[string]api.Errno{
			"count": PutCount(b.x, id, Count{-1, -1}), "head": PutHead(b.x, id, Head{}), "lease": PutLease(b.x, id, Lease{-1, -1, -1}),
			"good count": PutCount(b.x, id, Count{1, 1}), "good head": PutHead(b.x, id, aHead(3)), "good lease": PutLease(b.x, id, Lease{1, 1, 1}),
		} {
			if f != api.ErrNoTree {
				t.Fatal(id, what, f)
			}
		}
	}
}

// P18.4: the head of no leaves that is got where there is no row is none that may be Put; one with a root is.
func TestPutHeadOfNone(t *testing.T) {
	b := newBoth(t).puts(1)
	h, _ := b.getHead(2)
	if f := b.putHead(2, h); f != api.ErrArg {
		t.Fatal(f)
	}
	for _, odd := range []Head{{Size: 3, Root: hash(1), Sig: hash(1), Nodes: hashes(1)}, {Size: 1, Root: hash(1), Nodes: hashes(1)}, {Size: -1, Root: hash(1), Sig: hash(1)}} {
		if f := b.putHead(1, odd); f != api.ErrArg {
			t.Fatal(f)
		}
	}
	if f := b.putHead(2, Head{Root: hash(1), Sig: hash(2)}); f != api.OK {
		t.Fatal(f)
	}
	b.gets(1, 2)
}

// P18.4: rows that are none.
func TestCorrupt(t *testing.T) {
	all := map[int][]string{1: turned(countBytes(aCount(3))), 6: turned(headBytes(aHead(5))), 7: turned(leaseBytes(aLease(3)))}
	for table, l := range all {
		b := newBoth(t)
		for _, row := range l {
			b.raw(at(3, table), row)
			switch table {
			case 1:
				b.getCount(3)
			case 6:
				b.getHead(3)
			case 7:
				b.getLease(3)
			}
		}
		b.gets(2, 4)
		b.puts(3).gets(3) // what stands there is nothing that a Put asks for
	}
}

// P18.4: a head whose bytes are more than a value has is one that may be, but none that can be Put: Put's error.
func TestGreatHeads(t *testing.T) {
	b := newBoth(t)
	for n := range 41 {
		size := 1<<n - 1
		h := Head{Size: size, Root: hash(1), Nodes: hashes(n), Sig: hash(2)}
		encodesHead(t, h)
		want := api.OK
		if n >= 30 {
			want = api.ErrArg
		}
		if f := b.putHead(1, h); f != want {
			t.Fatal(n, f)
		}
		h.Tick, h.Epoch = most, most
		if f := b.putHead(1, h); f != want {
			t.Fatal(n, f)
		}
		b.gets(1)
	}
}

// P18.3, P18.4: a transaction that writes 256 keys already takes no other: Put's error, and nothing is turned.
func TestFull(t *testing.T) {
	full := func(spare string) *both {
		b := newBoth(t)
		for i := range 255 {
			b.raw(fmt.Sprint("other ", i), "")
		}
		return b.raw(spare, "?")
	}
	for _, a := range askings() {
		b := full("last")
		want := api.ErrArg
		if strings.HasPrefix(a.what, "Get") {
			want = api.OK
		}
		if a.what == "GetTree" {
			want = api.ErrNoTree
		}
		if v, f := a.do(b.x); f != want || !reflect.DeepEqual(v, a.zero) {
			t.Errorf("%s: %v %d", a.what, v, f)
		}
		b.same(a.what)
	}
	for _, table := range []int{0, 1, 6, 7} { // in the place of one that is written
		full(at(1, table)).puts(1).gets(1)
	}
	b := newBoth(t).raw(at(0, 0), "\x05")
	for i := range 255 {
		b.raw(fmt.Sprint("other ", i), "")
	}
	if n, f := b.fresh(); n != 6 || f != api.OK {
		t.Fatal(n, f)
	}
}

// P18.5: a row's key, of each table and number.
func TestRow(t *testing.T) {
	tables := []int{-1, 0, 1, 2, 3, 4, 5, 6, 7, 8, 9, 255, 256, 258, math.MinInt, math.MaxInt}
	for _, id := range append(oddIds(), allIds()...) {
		for _, table := range tables {
			for _, n := range edges() {
				b, f := Row(id, table, n)
				want := at(id, table) + string([]byte{byte(n >> 56), byte(n >> 48), byte(n >> 40), byte(n >> 32), byte(n >> 24), byte(n >> 16), byte(n >> 8), byte(n)})
				if id < 1 || id > 64 || table < 2 || table > 7 || !numOK(n) {
					if f != api.ErrArg || len(b) > 0 {
						t.Fatal(id, table, n, b, f)
					}
				} else if f != api.OK || string(b) != want {
					t.Fatalf("%d %d %d: %x %d", id, table, n, b, f)
				}
			}
		}
	}
	b, f := Row(1, 2, 258)
	if want, _ := key.Num(1, 2, 258); f != api.OK || string(b) != unhex(t, "00 00 00 00 00 00 00 01 02 00 00 00 00 00 00 01 02") || !bytes.Equal(b, want) {
		t.Fatalf("%x %d", b, f)
	}
}

// P18.5, W3: numbered rows are none of the rows with nothing behind their key, and turn none of them.
func TestRowApart(t *testing.T) {
	b := newBoth(t).puts(1, 2)
	for table := 2; table <= 7; table++ {
		for _, n := range []int{0, 1, most} {
			k, f := Row(1, table, n)
			if f != api.OK {
				t.Fatal(f)
			}
			b.raw(string(k), "?")
		}
	}
	b.gets(1, 2, 3)
}

// P18.6: what was Put is got in the same transaction, and, committed, in later ones, however the store goes on.
func TestLater(t *testing.T) {
	e, d := newEngine(t)
	b := begin(t, e)
	for _, id := range allIds() {
		b.puts(id).gets(id, id%64+1)
		b.fresh()
		b = b.again()
		b.gets(id)
		if id%3 == 0 {
			e.Flush()
		}
		if id%20 == 0 {
			e.Compact()
		}
		if id%15 == 0 {
			b.x.Abort()
			if f := d.Crash(nil); f != api.OK {
				t.Fatal(f)
			}
			e = open(t, d)
			b = begin(t, e)
		}
	}
	b.gets(allIds()...)
	for _, id := range allIds() {
		x, _ := b.getTree(id)
		h, _ := b.getHead(id)
		c, _ := b.getCount(id)
		l, _ := b.getLease(id)
		if x != aTree(id) || !sameHead(h, aHead(id)) || c != aCount(id) || l != aLease(id) {
			t.Fatal(id)
		}
	}
}

// P18.6: what was not committed is not there; a transaction sees what was when it began.
func TestNotCommitted(t *testing.T) {
	e, _ := newEngine(t)
	begin(t, e).puts(1).again().x.Abort()
	old := begin(t, e)
	lost := begin(t, e).puts(2, 3)
	lost.fresh()
	lost.gets(1, 2, 3)
	lost.x.Abort()
	next := begin(t, e)
	next.putTree(Tree{1, 3, 3, "other", hash(5)})
	next.putCount(1, Count{9, 9})
	next.putHead(1, aHead(900))
	next.putLease(1, Lease{9, 9, 9})
	next.fresh()
	if _, f := next.x.Commit(); f != api.OK {
		t.Fatal(f)
	}
	old.gets(1, 2, 3)
	if n, f := old.fresh(); n != 1 || f != api.OK {
		t.Fatal(n, f)
	}
	last := begin(t, e).gets(1, 2, 3)
	if n, f := last.fresh(); n != 2 || f != api.OK {
		t.Fatal(n, f)
	}
}

// W3: what is Put of one tree turns no row of another one, nor one of another kind.
func TestApart(t *testing.T) {
	b := newBoth(t)
	b.fresh()
	b = b.puts(allIds()[:60]...).again()
	for _, id := range []int{1, 2, 31, 60, 64} {
		b.putCount(id, Count{most, id})
		b.gets(id, 1, 2, 59, 61)
		b.putLease(id, Lease{most, most, id})
		b.gets(id, 1, 2, 59, 61)
		b.putHead(id, Head{Size: 8, Root: hash(5), Nodes: hashes(1), Sig: hash(6)})
		b.gets(id, 1, 2, 59, 61)
		b.putTree(Tree{id, 2, 1000, "turned", hash(7)})
		b.gets(id, 1, 2, 59, 61)
		b.fresh()
	}
	b.gets(allIds()...)
}

// Nothing is kept by the package: two engines at once have rows of their own.
func TestEngines(t *testing.T) {
	a, b := newBoth(t), newBoth(t)
	a.puts(1, 2)
	a.fresh()
	b.gets(1, 2, 3)
	if n, f := b.fresh(); n != 1 || f != api.OK {
		t.Fatal(n, f)
	}
	b.puts(3)
	a.gets(1, 2, 3)
}

// roomy is a copy with room behind it, into which something might be laid.
func roomy(l []string) []string {
	out := slices.Repeat([]string{"room"}, len(l)+4)
	copy(out, l)
	return out[:len(l)]
}

// R3: what is handed in is as it was, and so is the room behind it.
func TestHandedIn(t *testing.T) {
	b := newBoth(t)
	for _, size := range []int{0, 1, 3, 5, 300, 1<<20 - 1} {
		h := aHead(size)
		h.Nodes = roomy(h.Nodes)
		was := slices.Clone(h.Nodes[:cap(h.Nodes)])
		EncodeHead(h)
		Sign(aTree(1), h)
		b.putHead(1, h)
		h.Tick = -1
		EncodeHead(h)
		b.putHead(1, h)
		if !slices.Equal(h.Nodes[:cap(h.Nodes)], was) {
			t.Fatal(size)
		}
		for _, s := range []string{headBytes(aHead(size)), treeBytes(aTree(1)), "?"} {
			in := []byte(s + "room")
			DecodeHead(in[:len(s)])
			DecodeTree(in[:len(s)])
			if string(in) != s+"room" {
				t.Fatalf("%x", in)
			}
		}
	}
}

// R3: what is handed in is not kept, and what is answered is new memory.
func TestAnswered(t *testing.T) {
	b := newBoth(t)
	h := aHead(7)
	b.putHead(1, h)
	for i := range h.Nodes {
		h.Nodes[i] = hash(50 + i)
	}
	first, f := b.getHead(1) // the model has the bytes as they were
	if f != api.OK || !sameHead(first, aHead(7)) {
		t.Fatal(f)
	}
	for i := range first.Nodes[:cap(first.Nodes)] {
		first.Nodes[:cap(first.Nodes)][i] = "spoilt"
	}
	b.getHead(1)
	in := []byte(headBytes(aHead(7)))
	out, _ := DecodeHead(in)
	tin := []byte(treeBytes(aTree(9)))
	tout, _ := DecodeTree(tin)
	for _, spoilt := range [][]byte{in, tin} {
		for i := range spoilt {
			spoilt[i] ^= 255
		}
	}
	if !sameHead(out, aHead(7)) || tout != aTree(9) {
		t.Fatal("what is decoded turns with its bytes")
	}
	e1, _ := EncodeHead(aHead(7))
	t1, _ := EncodeTree(aTree(9))
	k1, _ := Row(1, 2, 3)
	for _, spoilt := range [][]byte{e1, t1, k1} {
		for i := range spoilt[:cap(spoilt)] {
			spoilt[:cap(spoilt)][i] ^= 255
		}
	}
	encodesHead(t, aHead(7))
	encodesTree(t, aTree(9))
	if k2, _ := Row(1, 2, 3); bytes.Equal(k1, k2) {
		t.Fatal("a key is answered twice")
	}
	b.putTree(aTree(9))
	l := b.trees()
	l[0] = Tree{}
	b.trees()
	b.gets(1, 9)
}

// R1: it ends at texts and lists that are long.
func TestLong(t *testing.T) {
	long := strings.Repeat("a", 1<<22)
	encodesTree(t, Tree{1, 1, 1, long, hash(1)})
	encodesTree(t, Tree{1, 1, 1, "n", long})
	encodesHead(t, Head{Root: long, Sig: hash(1)})
	encodesHead(t, Head{Size: 1, Root: hash(1), Sig: hash(1), Nodes: []string{long}})
	encodesHead(t, Head{Size: 1, Root: hash(1), Sig: hash(1), Nodes: make([]string, 1<<20)})
	signs(t, Tree{Key: long}, Head{Root: long})
	decodesTree(t, nums(1, 1, 1)+text(long)+text(hash(1)))
	decodesHead(t, nums(1, 1, 1)+long)
	b := newBoth(t)
	b.putTree(Tree{1, 1, 1, long, long})
	b.putHead(1, Head{Root: long, Sig: long})
}

// Nothing is kept: many may encode, decode and sign at once.
func TestAtOnce(t *testing.T) {
	var all sync.WaitGroup
	h := aHead(1<<20 - 1)
	h.Nodes = roomy(h.Nodes)
	for range 8 {
		all.Go(func() {
			for id := range 64 {
				b, _ := EncodeHead(h)
				if got, f := DecodeHead(b); f != api.OK || !sameHead(got, h) {
					t.Error(f)
				}
				c, _ := EncodeTree(aTree(id + 1))
				if got, f := DecodeTree(c); f != api.OK || got != aTree(id+1) || Sign(got, h) != wantSign(got, h) {
					t.Error(f)
				}
			}
		})
	}
	all.Wait()
}

// walk does as bytes say: rows that may be and such that may not, any bytes as rows, commits and aborts.
func walk(t *testing.T, seed []byte) {
	t.Helper()
	next := func() int {
		if len(seed) == 0 {
			return 0
		}
		x := seed[0]
		seed = seed[1:]
		return int(x)
	}
	odd := oddIds()
	id := func() int {
		x := next()
		if x < 230 {
			return x%6 + 1 // few trees, so that they meet
		}
		return odd[x%len(odd)]
	}
	all := edges()
	num := func() int {
		x := next()
		if x < 200 {
			return x
		}
		return all[x%len(all)]
	}
	b := newBoth(t)
	for len(seed) > 0 {
		switch x := next(); x % 16 {
		case 0:
			b.fresh()
		case 1, 2:
			b.putTree(Tree{id(), next() % 5, num(), strings.Repeat("n", next()%110), strings.Repeat("k", 30+next()%4)})
		case 3:
			b.putTree(aTree(next()%64 + 1))
		case 4, 5:
			b.putCount(id(), Count{num(), num()})
		case 6, 7:
			b.putLease(id(), Lease{num(), num(), num()})
		case 8, 9:
			h := aHead(next() * next() * next())
			h.Tick, h.Epoch = num(), num()
			b.putHead(id(), h)
		case 10:
			h := aHead(next())
			h.Size += next() % 2
			b.putHead(id(), h)
		case 11:
			k, n := at(next()%7, []int{0, 1, 6, 7}[next()%4]), next()%70
			n = min(n, len(seed))
			b.raw(k, string(seed[:n]))
			seed = seed[n:]
		case 12:
			of := []string{treeBytes(aTree(x%6 + 1)), countBytes(aCount(x)), headBytes(aHead(x)), leaseBytes(aLease(x)), nums(x)}
			l := turned(of[next()%5])
			b.raw(at(next()%7, []int{0, 1, 6, 7}[next()%4]), l[next()*next()%len(l)])
		case 13:
			b = b.again()
		case 14:
			b.x.Abort()
			b = begin(t, b.e)
		case 15:
			b.e.Flush()
			b.e.Compact()
		}
		b.gets(id(), next()%6+1)
	}
	b.again().gets(1, 2, 3, 4, 5, 6)
}

func TestWalk(t *testing.T) {
	t.Parallel()
	r := rand.New(rand.NewPCG(18, 1))
	for range 400 {
		seed := make([]byte, 300)
		for i := range seed {
			seed[i] = byte(r.Uint32())
		}
		walk(t, seed)
		if t.Failed() {
			t.Fatalf("% x", seed)
		}
	}
}

func FuzzRows(f *testing.F) {
	f.Add([]byte(nil))
	f.Add([]byte{0, 0, 0})
	for _, id := range []int{1, 13, 64} {
		f.Add([]byte(treeBytes(aTree(id))))
		f.Add([]byte(headBytes(aHead(id))))
	}
	f.Add([]byte(headBytes(aHead(most))))
	f.Add([]byte(headBytes(aHead(most - 1))))
	f.Fuzz(func(t *testing.T, b []byte) {
		decodesTree(t, string(b))
		decodesHead(t, string(b))
		if len(b) <= 1024 {
			x := newBoth(t)
			for _, id := range []int{0, 1} {
				for _, table := range []int{0, 1, 6, 7} {
					x.raw(at(id, table), string(b))
				}
			}
			x.gets(0, 1, 2)
			x.fresh()
		}
		walk(t, b[:min(len(b), 200)])
	})
}
