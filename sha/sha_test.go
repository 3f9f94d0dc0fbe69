package sha

import (
	"bytes"
	"crypto/hmac"
	"crypto/sha256"
	"encoding/binary"
	"encoding/hex"
	"slices"
	"strings"
	"sync"
	"testing"

	"sawyer/api"
)

// sample is n bytes of which no two neighbouring blocks are alike.
func sample(n int) []byte {
	b := make([]byte, n)
	x := uint32(n)*2654435761 + 1
	for i := range b {
		x = x*1664525 + 1013904223
		b[i] = byte(x >> 24)
	}
	return b
}

// unhex is the bytes of digits in groups.
func unhex(t *testing.T, s string) string {
	t.Helper()
	b, err := hex.DecodeString(strings.ReplaceAll(s, " ", ""))
	if err != nil {
		t.Fatal(err)
	}
	return string(b)
}

func librarySum(b []byte) string {
	h := sha256.Sum256(b)
	return string(h[:])
}

func libraryMac(key, b []byte) string {
	m := hmac.New(sha256.New, key)
	m.Write(b)
	return string(m.Sum(nil))
}

// P1.1, example 1, and RFC 6234's texts of two blocks and of a million bytes.
func TestSumKnown(t *testing.T) {
	for _, x := range []struct{ b, h string }{
		{"abc", "ba7816bf 8f01cfea 414140de 5dae2223 b00361a3 96177a9c b410ff61 f20015ad"},
		{"", "e3b0c442 98fc1c14 9afbf4c8 996fb924 27ae41e4 649b934c a495991b 7852b855"},
		{"abcdbcdecdefdefgefghfghighijhijkijkljklmklmnlmnomnopnopq", "248d6a61 d20638b8 e5c02693 0c3e6039 a33ce459 64ff2167 f6ecedd4 19db06c1"},
		{strings.Repeat("a", 1000000), "cdc76e5c 9914fb92 81a1c7e2 84d73e67 f1809a48 a497200e 046d39cc c7112cd0"},
	} {
		if got := Sum([]byte(x.b)); got != unhex(t, x.h) {
			t.Errorf("Sum of %d bytes: %x", len(x.b), got)
		}
	}
}

// P1.1 at every length up to some blocks: so at whole blocks, at 55 and 56 bytes behind them, and around these.
func TestSumLengths(t *testing.T) {
	for n := 0; n <= 6*64+2; n++ {
		for _, b := range [][]byte{sample(n), make([]byte, n), bytes.Repeat([]byte{0xff}, n)} {
			if got, want := Sum(b), librarySum(b); got != want {
				t.Errorf("Sum of %d bytes: %x, not %x", n, got, want)
			}
		}
	}
}

// P1.1: the count of bits needs more than one of its eight bytes, and more than two.
func TestSumLong(t *testing.T) {
	for _, n := range []int{31, 32, 1<<13 - 1, 1 << 13, 1<<21 - 9, 1<<21 - 8, 1 << 21} {
		b := make([]byte, n)
		b[n-1] = 1
		if got, want := Sum(b), librarySum(b); got != want {
			t.Errorf("Sum of %d bytes: %x, not %x", n, got, want)
		}
	}
}

// P1.1: what ends the last block, by itself, so that lengths of which the bits have no room in 32 are held to it without so many bytes.
func TestEnding(t *testing.T) {
	for _, size := range []int{0, 1, 55, 56, 63, 64, 1<<29 - 1, 1 << 29, 1<<29 + 56, 1<<31 - 1} {
		rest := sample(size % 64)
		got := ending(rest, size)
		want := append(slices.Clone(rest), 0x80)
		for len(want)%64 != 56 {
			want = append(want, 0)
		}
		want = binary.BigEndian.AppendUint64(want, uint64(size)*8)
		if !bytes.Equal(got, want) {
			t.Errorf("ending of %d bytes: %x, not %x", size, got, want)
		}
	}
}

// P1.1: every byte and every place in a block counts.
func TestSumEachBit(t *testing.T) {
	b := sample(130)
	was := Sum(b)
	for i := range b {
		for bit := 0; bit < 8; bit++ {
			b[i] ^= 1 << bit
			if got := Sum(b); got == was || got != librarySum(b) {
				t.Errorf("byte %d, bit %d: %x", i, bit, got)
			}
			b[i] ^= 1 << bit
		}
	}
}

// P1.2, example 2, and RFC 4231's cases: short keys, one of fewer than 64 bytes, one of more, with short and long texts.
func TestMacKnown(t *testing.T) {
	aa := strings.Repeat("\xaa", 131)
	for _, x := range []struct{ key, b, h string }{
		{"Jefe", "what do ya want for nothing?", "5bdcc146 bf60754e 6a042426 089575c7 5a003f08 9d273983 9dec58b9 64ec3843"},
		{strings.Repeat("\x0b", 20), "Hi There", "b0344c61 d8db3853 5ca8afce af0bf12b 881dc200 c9833da7 26e9376c 2e32cff7"},
		{aa[:20], strings.Repeat("\xdd", 50), "773ea91e 36800e46 854db8eb d09181a7 2959098b 3ef8c122 d9635514 ced565fe"},
		{aa, "Test Using Larger Than Block-Size Key - Hash Key First", "60e43159 1ee0b67f 0d8a26aa cbf5b77f 8e0bc621 3728c514 0546040f 0ee37f54"},
		{aa, "This is a test using a larger than block-size key and a larger than block-size data. The key needs to be hashed before being used by the HMAC algorithm.", "9b09ffa7 1b942fcb 27635fbc d5b0e944 bfdc6364 4f071393 8a7f5153 5c3a35e2"},
		{"", "", "b613679a 0814d9ec 772f95d7 78c35fc5 ff1697c4 93715653 c6c71214 4292c5ad"},
	} {
		if got := Mac([]byte(x.key), []byte(x.b)); got != unhex(t, x.h) {
			t.Errorf("Mac of %q and %q: %x", x.key, x.b, got)
		}
	}
}

// P1.2 at keys of no bytes, of up to 64 and of more, and at texts around whole blocks.
func TestMacLengths(t *testing.T) {
	for k := 0; k <= 3*64+2; k++ {
		for _, n := range []int{0, 1, 54, 55, 56, 57, 63, 64, 65, 119, 120, 128, 300} {
			key, b := sample(k), sample(n + 1)[:n]
			if got, want := Mac(key, b), libraryMac(key, b); got != want {
				t.Errorf("Mac of a key of %d bytes and %d bytes: %x, not %x", k, n, got, want)
			}
		}
	}
}

// P1.2: the Sum stands for a key of more than 64 bytes, and for none of 64 or fewer.
func TestMacLongKey(t *testing.T) {
	b := sample(40)
	for k := 0; k <= 200; k++ {
		key := sample(k)
		same := Mac(key, b) == Mac([]byte(Sum(key)), b)
		if same != (k > 64) {
			t.Errorf("key of %d bytes: its Sum has the same Mac: %v", k, same)
		}
	}
}

// P1.3: each byte alone, all of them in a row, and none.
func TestHex(t *testing.T) {
	all := make([]byte, 256)
	for i := range all {
		all[i] = byte(i)
		want := string([]byte{"0123456789abcdef"[i/16], "0123456789abcdef"[i%16]})
		if got := Hex(string(all[i : i+1])); got != want {
			t.Errorf("Hex of byte %d: %q, not %q", i, got, want)
		}
	}
	for _, s := range []string{string(all), "", "\x00", "\x0f\xf0", "\xff\xfe\xc3\x28", "äß€", string(sample(1001))} {
		if got, want := Hex(s), hex.EncodeToString([]byte(s)); got != want {
			t.Errorf("Hex of %q: %q, not %q", s, got, want)
		}
	}
}

// P1.4: 32 bytes, whatever comes in.
func TestSizes(t *testing.T) {
	for n := 0; n <= 300; n++ {
		b := sample(n)
		if len(Sum(b)) != api.HashSize || len(Mac(b, nil)) != api.HashSize || len(Mac(nil, b)) != api.HashSize || len(Mac(b, b)) != api.HashSize {
			t.Errorf("%d bytes: a Sum or a Mac has not 32 bytes", n)
		}
	}
}

// P1.4: a key, and it with noughts behind it up to 64 bytes, have one Mac; with one nought more they haven't.
func TestMacNoughts(t *testing.T) {
	b := []byte("what is signed")
	for k := 0; k <= 64; k++ {
		key := sample(k)
		want := Mac(key, b)
		for n := k; n <= 64; n++ {
			if Mac(append(slices.Clone(key), make([]byte, n-k)...), b) != want {
				t.Errorf("key of %d bytes, with noughts %d: another Mac", k, n)
			}
		}
		if Mac(append(slices.Clone(key), make([]byte, 65-k)...), b) == want {
			t.Errorf("key of %d bytes, with noughts 65: the same Mac", k)
		}
	}
}

// P1, R1: nil is as no bytes.
func TestNil(t *testing.T) {
	none := []byte{}
	if Sum(nil) != Sum(none) || Sum(nil) != librarySum(nil) {
		t.Error("Sum of nil")
	}
	if Mac(nil, nil) != Mac(none, none) || Mac(nil, nil) != libraryMac(nil, nil) {
		t.Error("Mac of nil and nil")
	}
	if Mac(nil, []byte("b")) != Mac(none, []byte("b")) || Mac([]byte("k"), nil) != Mac([]byte("k"), none) {
		t.Error("Mac of nil and bytes")
	}
	if Hex("") != "" {
		t.Error("Hex of nothing")
	}
}

// R3: bytes that are handed in, and the room behind them, stay as they were.
func TestArgumentsStay(t *testing.T) {
	for _, n := range []int{0, 1, 55, 56, 63, 64, 65, 128, 200} {
		room := sample(n + 300)
		key, b := room[:n:n+150], room[n+150:n+150+n/2]
		was := slices.Clone(room)
		Sum(b)
		Sum(key)
		Mac(key, b)
		Mac(b, key)
		if !bytes.Equal(room, was) {
			t.Errorf("%d bytes: what was handed in is changed", n)
		}
	}
}

// R3: nothing is kept: what was answered stays when the arguments are turned, and one call turns no other one's answer.
func TestNothingIsKept(t *testing.T) {
	key, b := sample(70), sample(200)
	sum, mac := Sum(b), Mac(key, b)
	wantSum, wantMac := librarySum(b), libraryMac(key, b)
	k2, b2 := slices.Clone(key), slices.Clone(b)
	clear(key)
	clear(b)
	Sum(b)
	Mac(key, b)
	if sum != wantSum || mac != wantMac || Sum(b2) != wantSum || Mac(k2, b2) != wantMac {
		t.Error("an answer hangs on an earlier call")
	}
}

// Calls at the same time share nothing.
func TestAtOnce(t *testing.T) {
	var all sync.WaitGroup
	for i := 0; i < 8; i++ {
		all.Go(func() {
			for n := i; n < 300; n += 8 {
				b := sample(n)
				if Sum(b) != librarySum(b) || Mac(b, b) != libraryMac(b, b) {
					t.Errorf("%d bytes, at once with others", n)
				}
			}
		})
	}
	all.Wait()
}

// FuzzSha holds any bytes against the library's.
func FuzzSha(f *testing.F) {
	f.Add([]byte("Jefe"), []byte("what do ya want for nothing?"))
	f.Add(sample(64), sample(55))
	f.Add(sample(65), sample(56))
	f.Fuzz(func(t *testing.T, key, b []byte) {
		if Sum(b) != librarySum(b) || Mac(key, b) != libraryMac(key, b) || Hex(string(b)) != hex.EncodeToString(b) {
			t.Errorf("%x, %x", key, b)
		}
	})
}
