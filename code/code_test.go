package code

import (
	"bytes"
	"encoding/binary"
	"hash/crc32"
	"math"
	"strings"
	"sync"
	"testing"

	"sawyer/api"
)

// sample is n bytes that aren't alike.
func sample(n int) []byte {
	b := make([]byte, n)
	x := uint32(n)*2654435761 + 1
	for i := range b {
		x = x*1664525 + 1013904223
		b[i] = byte(x >> 24)
	}
	return b
}

// numbers are those around each group of 7 bits and each byte, and the greatest.
func numbers() []int {
	out := []int{0, 1, 300, 1<<62 - 2, 1<<62 - 1}
	for k := 1; k < 62; k++ {
		out = append(out, 1<<k-1, 1<<k, 1<<k+1)
	}
	return out
}

// tails are what may stand behind a thing that is put.
func tails() [][]byte {
	return [][]byte{nil, {0}, {128}, {255, 255, 255, 255, 255, 255, 255, 255, 255, 255}, sample(20)}
}

// roomy is b with room behind it, and a look at whether it or that room was written to.
func roomy(b []byte) ([]byte, func() bool) {
	whole := make([]byte, len(b)+40)
	copy(whole, b)
	for i := len(b); i < len(whole); i++ {
		whole[i] = 0xA5
	}
	was := bytes.Clone(whole)
	return whole[:len(b)], func() bool { return bytes.Equal(whole, was) }
}

// shares tells whether a turned byte of one is seen in the other.
func shares(a, b []byte) bool {
	was := bytes.Clone(b)
	for i := range a {
		a[i] ^= 0xFF
	}
	same := bytes.Equal(b, was)
	for i := range a {
		a[i] ^= 0xFF
	}
	return !same
}

func refusedNum(b []byte) bool {
	n, rest, e := TakeNum(b)
	return n == 0 && len(rest) == 0 && e == api.ErrCorrupt
}

func refusedText(b []byte, most int) bool {
	s, rest, e := TakeText(b, most)
	return s == "" && len(rest) == 0 && e == api.ErrCorrupt
}

func refusedFix(b []byte) bool {
	n, rest, e := TakeFix(b)
	return n == 0 && len(rest) == 0 && e == api.ErrCorrupt
}

func refusedFrame(b []byte, most int) bool {
	body, rest, e := TakeFrame(b, most)
	return len(body) == 0 && len(rest) == 0 && e == api.ErrCorrupt
}

// Example 1.
func TestExample(t *testing.T) {
	if b := PutNum(nil, 300); !bytes.Equal(b, []byte{0xAC, 0x02}) {
		t.Errorf("% X", b)
	}
	if b := PutFix(nil, 258); !bytes.Equal(b, []byte{0, 0, 0, 0, 0, 0, 1, 2}) {
		t.Errorf("% X", b)
	}
	if w := Crc([]byte("123456789")); w != 0xCBF43926 {
		t.Errorf("%X", w)
	}
	if b := PutFrame(nil, nil); !bytes.Equal(b, []byte{0x00, 0xD2, 0x02, 0xEF, 0x8D}) {
		t.Errorf("% X", b)
	}
}

// P2.1: known bytes, around the groups and out of range.
func TestPutNumKnown(t *testing.T) {
	high := []byte{255, 255, 255, 255, 255, 255, 255, 255, 63}
	for _, x := range []struct {
		n    int
		want []byte
	}{
		{0, []byte{0}},
		{-1, []byte{0}},
		{math.MinInt, []byte{0}},
		{127, []byte{127}},
		{128, []byte{128, 1}},
		{16383, []byte{255, 127}},
		{16384, []byte{128, 128, 1}},
		{1<<56 - 1, []byte{255, 255, 255, 255, 255, 255, 255, 127}},
		{1 << 56, []byte{128, 128, 128, 128, 128, 128, 128, 128, 1}},
		{1<<62 - 2, []byte{254, 255, 255, 255, 255, 255, 255, 255, 63}},
		{1<<62 - 1, high},
		{1 << 62, high},
		{1<<62 + 5, high},
		{math.MaxInt, high},
	} {
		if got := PutNum([]byte{9, 8}, x.n); !bytes.Equal(got, append([]byte{9, 8}, x.want...)) {
			t.Errorf("PutNum %d: %v", x.n, got)
		}
	}
}

// P2.1: the groups are those of Go's own library.
func TestPutNumLibrary(t *testing.T) {
	for _, n := range numbers() {
		want := binary.AppendUvarint([]byte("ahead"), uint64(n))
		if got := PutNum([]byte("ahead"), n); !bytes.Equal(got, want) {
			t.Errorf("PutNum %d: %v", n, got)
		}
	}
}

// P2.1, P2.6: what was put is taken, with what stands behind it; cut off it is none.
func TestTakeNum(t *testing.T) {
	for _, n := range numbers() {
		put := PutNum(nil, n)
		for _, tail := range tails() {
			got, rest, e := TakeNum(append(bytes.Clone(put), tail...))
			if got != n || !bytes.Equal(rest, tail) || e != api.OK {
				t.Errorf("TakeNum of %d and %v: %d %v %v", n, tail, got, rest, e)
			}
		}
		for k := range put {
			if !refusedNum(put[:k]) {
				t.Errorf("%d cut to %d bytes is taken", n, k)
			}
		}
	}
}

// P2.1: bytes that PutNum lays for no number.
func TestTakeNumRefuses(t *testing.T) {
	for _, b := range [][]byte{
		nil,
		{},
		{128},
		{255},
		{128, 0},
		{255, 0},
		{128, 128, 0},
		{172, 130, 0},
		{128, 0, 1},
		{255, 255, 255, 255, 255, 255, 255, 255, 64},
		{255, 255, 255, 255, 255, 255, 255, 255, 127},
		{128, 128, 128, 128, 128, 128, 128, 128, 64},
		{128, 128, 128, 128, 128, 128, 128, 128, 0},
		{128, 128, 128, 128, 128, 128, 128, 128, 128, 0},
		{128, 128, 128, 128, 128, 128, 128, 128, 128, 1},
		{129, 128, 128, 128, 128, 128, 128, 128, 128, 0},
		{255, 255, 255, 255, 255, 255, 255, 255, 191, 0},
		{255, 255, 255, 255, 255, 255, 255, 255, 255, 1},
		bytes.Repeat([]byte{128}, 100),
		bytes.Repeat([]byte{255}, 100),
	} {
		if !refusedNum(b) || !refusedText(b, math.MaxInt) || !refusedFrame(b, math.MaxInt) {
			t.Errorf("taken: %v", b)
		}
	}
}

// P2.1, P2.6: of all rows of up to three bytes just those are taken that putting lays.
func TestTakeNumAllShort(t *testing.T) {
	for size := 1; size <= 3; size++ {
		for x := range 1 << (8 * size) {
			b := []byte{byte(x), byte(x >> 8), byte(x >> 16)}[:size]
			n, rest, e := TakeNum(b)
			if e == api.OK {
				if again := append(PutNum(nil, n), rest...); !bytes.Equal(again, b) {
					t.Fatalf("%v is taken as %d", b, n)
				}
			} else if !refusedNum(b) {
				t.Fatalf("%v: %d %v %v", b, n, rest, e)
			} else if v, k := binary.Uvarint(b); k > 0 && bytes.Equal(binary.AppendUvarint(nil, v), b[:k]) {
				t.Fatalf("%v is refused", b)
			}
		}
	}
}

// P2.2: known bytes.
func TestPutText(t *testing.T) {
	long := strings.Repeat("x", 300)
	for _, x := range []struct{ s, want string }{
		{"", "ahead\x00"},
		{"a", "ahead\x01a"},
		{"\x00\xff\x80", "ahead\x03\x00\xff\x80"},
		{long, "ahead\xac\x02" + long},
	} {
		if got := PutText([]byte("ahead"), x.s); string(got) != x.want {
			t.Errorf("PutText %q: %q", x.s, got)
		}
	}
}

// P2.2, P2.6: what was put is taken; a most at and above the length takes it, one below doesn't.
func TestTakeText(t *testing.T) {
	for _, n := range []int{0, 1, 2, 126, 127, 128, 129, 300, 16383, 16384} {
		s := string(sample(n))
		put := PutText(nil, s)
		for _, tail := range tails() {
			b := append(bytes.Clone(put), tail...)
			for _, most := range []int{n, n + 1, math.MaxInt} {
				got, rest, e := TakeText(b, most)
				if got != s || !bytes.Equal(rest, tail) || e != api.OK {
					t.Errorf("TakeText of %d bytes, most %d: %d %d %v", n, most, len(got), len(rest), e)
				}
			}
			for _, most := range []int{n - 1, -1, math.MinInt} {
				if !refusedText(b, most) {
					t.Errorf("a text of %d bytes, most %d, is taken", n, most)
				}
			}
		}
	}
}

// P2.2: a text that is cut off, or of a length that no bytes have.
func TestTakeTextRefuses(t *testing.T) {
	for _, n := range []int{0, 1, 5, 127, 128, 300} {
		put := PutText(nil, string(sample(n)))
		for k := range put {
			if !refusedText(put[:k], math.MaxInt) {
				t.Errorf("a text of %d bytes cut to %d is taken", n, k)
			}
		}
	}
	for _, n := range numbers() {
		if n > 20 && !refusedText(append(PutNum(nil, n), sample(20)...), math.MaxInt) {
			t.Errorf("20 bytes are taken as %d", n)
		}
	}
}

// P2.3: eight bytes, as Go's own library lays them.
func TestPutFix(t *testing.T) {
	zero := []byte{7, 0, 0, 0, 0, 0, 0, 0, 0}
	for _, n := range []int{-1, -258, math.MinInt, 0} {
		if got := PutFix([]byte{7}, n); !bytes.Equal(got, zero) {
			t.Errorf("PutFix %d: %v", n, got)
		}
	}
	for _, n := range append(numbers(), 1<<62, 1<<62+1, math.MaxInt-1, math.MaxInt) {
		want := binary.BigEndian.AppendUint64([]byte{7}, uint64(n))
		if got := PutFix([]byte{7}, n); !bytes.Equal(got, want) {
			t.Errorf("PutFix %d: %v", n, got)
		}
	}
}

// P2.3, P2.6: what was put is taken; fewer than eight bytes, or a number above 2^63 - 1, are none.
func TestTakeFix(t *testing.T) {
	for _, n := range append(numbers(), 1<<62, 1<<62+1, math.MaxInt-1, math.MaxInt) {
		put := PutFix(nil, n)
		for _, tail := range tails() {
			got, rest, e := TakeFix(append(bytes.Clone(put), tail...))
			if got != n || !bytes.Equal(rest, tail) || e != api.OK {
				t.Errorf("TakeFix of %d and %v: %d %v %v", n, tail, got, rest, e)
			}
		}
		for k := range put {
			if !refusedFix(put[:k]) {
				t.Errorf("%d cut to %d bytes is taken", n, k)
			}
		}
		high := bytes.Clone(put)
		high[0] |= 128
		if !refusedFix(high) || !refusedFix(append(high, 1, 2, 3)) {
			t.Errorf("%v is taken", high)
		}
	}
	if !refusedFix(nil) || !refusedFix(bytes.Repeat([]byte{255}, 8)) {
		t.Error("taken")
	}
}

// P2.4: the sum is that of Go's own library.
func TestCrc(t *testing.T) {
	if Crc(nil) != 0 || Crc([]byte{}) != 0 {
		t.Error(Crc(nil), Crc([]byte{}))
	}
	for x := range 256 {
		if b := []byte{byte(x)}; Crc(b) != crc32.ChecksumIEEE(b) {
			t.Errorf("Crc of %v: %x", b, Crc(b))
		}
	}
	for n := range 300 {
		if b := sample(n); Crc(b) != crc32.ChecksumIEEE(b) {
			t.Errorf("Crc of %d bytes: %x", n, Crc(b))
		}
	}
	for _, b := range [][]byte{make([]byte, 5000), bytes.Repeat([]byte{255}, 5000), sample(100000)} {
		if Crc(b) != crc32.ChecksumIEEE(b) {
			t.Errorf("Crc of %d bytes: %x", len(b), Crc(b))
		}
	}
}

// P2.5: the number of the length, the sum of that number and the body, the body.
func TestPutFrame(t *testing.T) {
	for _, n := range []int{0, 1, 4, 127, 128, 300, 5000, 16384} {
		body := sample(n)
		size := binary.AppendUvarint(nil, uint64(n))
		sum := crc32.ChecksumIEEE(append(bytes.Clone(size), body...))
		want := append([]byte("ahead"), size...)
		want = binary.BigEndian.AppendUint32(want, sum)
		want = append(want, body...)
		if got := PutFrame([]byte("ahead"), body); !bytes.Equal(got, want) {
			t.Errorf("PutFrame of %d bytes: %v", n, got)
		}
	}
}

// P2.5, P2.6: what was put is taken; a most at and above the length takes it, one below doesn't.
func TestTakeFrame(t *testing.T) {
	for _, n := range []int{0, 1, 2, 126, 127, 128, 129, 300, 16383, 16384} {
		body := sample(n)
		put := PutFrame(nil, body)
		for _, tail := range tails() {
			b := append(bytes.Clone(put), tail...)
			for _, most := range []int{n, n + 1, math.MaxInt} {
				got, rest, e := TakeFrame(b, most)
				if !bytes.Equal(got, body) || !bytes.Equal(rest, tail) || e != api.OK {
					t.Errorf("TakeFrame of %d bytes, most %d: %d %d %v", n, most, len(got), len(rest), e)
				}
			}
			for _, most := range []int{n - 1, -1, math.MinInt} {
				if !refusedFrame(b, most) {
					t.Errorf("a frame of %d bytes, most %d, is taken", n, most)
				}
			}
		}
	}
}

// P2.5, P2.6: a frame that is cut off anywhere, turned in one bit, or too short for its length, is none.
func TestTakeFrameRefuses(t *testing.T) {
	for _, n := range []int{0, 1, 5, 127, 128, 300} {
		put := PutFrame(nil, sample(n))
		for k := range put {
			if !refusedFrame(put[:k], math.MaxInt) {
				t.Errorf("a frame of %d bytes cut to %d is taken", n, k)
			}
		}
		for k := range 8 * len(put) {
			turned := bytes.Clone(put)
			turned[k/8] ^= 1 << (k % 8)
			if !refusedFrame(turned, math.MaxInt) || !refusedFrame(append(turned, sample(400)...), math.MaxInt) {
				t.Errorf("a frame of %d bytes turned at bit %d is taken", n, k)
			}
		}
	}
	for _, n := range numbers() {
		if n > 16 && !refusedFrame(append(PutNum(nil, n), sample(20)...), math.MaxInt) {
			t.Errorf("20 bytes are taken as a frame of %d", n)
		}
	}
	if refusedFrame(append(PutFrame(nil, nil), 0), 0) {
		t.Error("an empty frame is refused")
	}
}

// P2.5: a sum of the body alone is not a frame's.
func TestFrameSumHasNumber(t *testing.T) {
	body := []byte("body")
	b := binary.BigEndian.AppendUint32(PutNum(nil, len(body)), Crc(body))
	if !refusedFrame(append(b, body...), 100) {
		t.Error("taken")
	}
}

// P2.6: things one behind the other are taken one by one.
func TestRow(t *testing.T) {
	b := PutFrame(PutFix(PutText(PutNum(nil, 70000), "text"), 99), []byte("body"))
	b = PutNum(b, 5)
	n, b, e1 := TakeNum(b)
	s, b, e2 := TakeText(b, 4)
	f, b, e3 := TakeFix(b)
	body, b, e4 := TakeFrame(b, 4)
	if n != 70000 || s != "text" || f != 99 || string(body) != "body" || !bytes.Equal(b, []byte{5}) {
		t.Error(n, s, f, body, b)
	}
	if e1 != api.OK || e2 != api.OK || e3 != api.OK || e4 != api.OK {
		t.Error(e1, e2, e3, e4)
	}
}

// R1: arguments that are nil.
func TestNil(t *testing.T) {
	if !bytes.Equal(PutNum(nil, 0), []byte{0}) || !bytes.Equal(PutText(nil, ""), []byte{0}) {
		t.Error("PutNum, PutText")
	}
	if !bytes.Equal(PutFix(nil, 0), make([]byte, 8)) || len(PutFrame(nil, nil)) != 5 || Crc(nil) != 0 {
		t.Error("PutFix, PutFrame, Crc")
	}
	if !refusedNum(nil) || !refusedFix(nil) {
		t.Error("TakeNum, TakeFix")
	}
	for _, most := range []int{math.MinInt, -1, 0, 1, math.MaxInt} {
		if !refusedText(nil, most) || !refusedFrame(nil, most) {
			t.Error("TakeText, TakeFrame", most)
		}
	}
}

// R3: what is put behind bytes leaves them, and the room behind them, as they were, and shares nothing with them.
func TestPutKeepsApart(t *testing.T) {
	body, bodySame := roomy([]byte("body"))
	for _, put := range []func(b []byte) []byte{
		func(b []byte) []byte { return PutNum(b, 300) },
		func(b []byte) []byte { return PutText(b, "text") },
		func(b []byte) []byte { return PutFix(b, 258) },
		func(b []byte) []byte { return PutFrame(b, body) },
	} {
		b, same := roomy([]byte("ahead"))
		got := put(b)
		if shares(got[:cap(got)], b[:cap(b)]) || shares(got[:cap(got)], body[:cap(body)]) {
			t.Error("an answer shares an argument's memory")
		}
		if !same() || !bodySame() {
			t.Error("an argument was written to")
		}
	}
}

// R3: what is taken leaves the bytes as they were, and shares nothing with them, nor with the other answer.
func TestTakeKeepsApart(t *testing.T) {
	for _, x := range []struct {
		put  []byte
		take func(b []byte) ([]byte, []byte)
	}{
		{PutNum(nil, 300), func(b []byte) ([]byte, []byte) { _, rest, _ := TakeNum(b); return nil, rest }},
		{PutText(nil, "text"), func(b []byte) ([]byte, []byte) { _, rest, _ := TakeText(b, 4); return nil, rest }},
		{PutFix(nil, 258), func(b []byte) ([]byte, []byte) { _, rest, _ := TakeFix(b); return nil, rest }},
		{PutFrame(nil, []byte("body")), func(b []byte) ([]byte, []byte) { body, rest, _ := TakeFrame(b, 4); return body, rest }},
	} {
		b, same := roomy(append(x.put, "rest"...))
		body, rest := x.take(b)
		if string(rest) != "rest" {
			t.Fatalf("%v: %q", x.put, rest)
		}
		if shares(rest[:cap(rest)], b[:cap(b)]) || shares(body[:cap(body)], b[:cap(b)]) || shares(body[:cap(body)], rest[:cap(rest)]) {
			t.Error("an answer shares memory")
		}
		Crc(b)
		if !same() {
			t.Error("the bytes were written to")
		}
	}
}

// Nothing is kept: calls at once answer as calls one by one.
func TestAtOnce(t *testing.T) {
	b := PutFrame(nil, sample(1000))
	var all sync.WaitGroup
	for range 8 {
		all.Go(func() {
			for range 50 {
				body, rest, e := TakeFrame(b, 1000)
				if !bytes.Equal(body, sample(1000)) || len(rest) != 0 || e != api.OK {
					t.Error(len(body), len(rest), e)
				}
			}
		})
	}
	all.Wait()
}

// P2.6: whatever the bytes, what is taken is what putting lays, and nothing panics.
func FuzzCode(f *testing.F) {
	f.Add([]byte{0xAC, 2, 1}, 300)
	f.Add(PutText(nil, "text"), 4)
	f.Add(PutFrame(nil, []byte("body")), 4)
	f.Add(PutFix(nil, 258), -1)
	f.Fuzz(func(t *testing.T, b []byte, most int) {
		if n, rest, e := TakeNum(b); e == api.OK && !bytes.Equal(append(PutNum(nil, n), rest...), b) {
			t.Error("num", n)
		}
		if s, rest, e := TakeText(b, most); e == api.OK && (len(s) > most || !bytes.Equal(append(PutText(nil, s), rest...), b)) {
			t.Error("text", s)
		}
		if n, rest, e := TakeFix(b); e == api.OK && !bytes.Equal(append(PutFix(nil, n), rest...), b) {
			t.Error("fix", n)
		}
		if body, rest, e := TakeFrame(b, most); e == api.OK && (len(body) > most || !bytes.Equal(append(PutFrame(nil, body), rest...), b)) {
			t.Error("frame", body)
		}
		if Crc(b) != crc32.ChecksumIEEE(b) {
			t.Error("crc")
		}
		if body, rest, e := TakeFrame(append(PutFrame(nil, b), b...), len(b)); !bytes.Equal(body, b) || !bytes.Equal(rest, b) || e != api.OK {
			t.Error("frame of it", e)
		}
	})
}
