package hash

import (
	"bytes"
	"encoding/json"
	"os"
	"os/exec"
	"path/filepath"
	"strings"
	"testing"

	"sawyer/api"
	"sawyer/sha"
)

// weakSource is a package sha of which many texts have one sum: two texts of one sum of SHA-256 nobody knows, so what is told of such can't be seen with it.
const weakSource = `package sha

func Sum(b []byte) string {
	n := 0
	for i, x := range b {
		n += (i%3 + 1) * int(x)
	}
	out := make([]byte, 32)
	out[0] = byte(n % 3)
	return string(out)
}

func Mac(key, b []byte) string { return "" }

func Hex(s string) string { return s }
`

// TestWeak runs TestWeakSums with a weak package sha in the place of the right one.
func TestWeak(t *testing.T) {
	t.Parallel()
	if _, err := exec.LookPath("go"); err != nil {
		t.Skip("no go command: what go test runs always has it")
	}
	right, err := filepath.Abs(filepath.Join("..", "sha", "sha.go"))
	if err != nil {
		t.Fatal(err)
	}
	weak, list := filepath.Join(t.TempDir(), "sha.go"), filepath.Join(t.TempDir(), "list")
	instead, err := json.Marshal(map[string]map[string]string{"Replace": {right: weak}})
	if err != nil {
		t.Fatal(err)
	}
	if os.WriteFile(weak, []byte(weakSource), 0o600) != nil || os.WriteFile(list, instead, 0o600) != nil {
		t.Fatal("no file to write to")
	}
	out, err := exec.Command("go", "test", "-v", "-overlay", list, "-run", "^TestWeakSums$", ".").CombinedOutput()
	if err != nil || !bytes.Contains(out, []byte("--- PASS: TestWeakSums")) {
		t.Errorf("%v: %s", err, out)
	}
}

// weakHash is a text of 32 bytes; those of 0 to 2 the weak sums are.
func weakHash(x byte) string { return string([]byte{x}) + strings.Repeat("\x00", 31) }

// weakBytes are such texts' first bytes: the weak sums tell 0 from 1, but not 0 from 3, on whichever side.
func weakBytes() []byte { return []byte{0, 1, 3} }

// wantInputs is what is summed from the root on, and the root, in P15.4's words.
func wantInputs(leaf string, index, size int, path []string) ([]string, string) {
	if size == 1 {
		return nil, leaf
	}
	k, last := wantCut(size), len(path)-1
	var below []string
	var l, r string
	if index < k {
		below, l = wantInputs(leaf, index, k, path[:last])
		r = path[last]
	} else {
		below, r = wantInputs(leaf, index-k, size-k, path[:last])
		l = path[last]
	}
	in := "\x01" + l + r
	return append([]string{in}, below...), sha.Sum([]byte(in))
}

// wantCollide is P15.6's of paths that are long enough, in its words.
func wantCollide(index, size int, a string, pa []string, b string, pb []string) (string, string, bool) {
	x, top := wantInputs(a, index, size, pa)
	y, other := wantInputs(b, index, size, pb)
	if top != other || a == b {
		return "", "", false
	}
	for i := range x {
		if x[i] != y[i] && sha.Sum([]byte(x[i])) == sha.Sum([]byte(y[i])) {
			return x[i], y[i], true
		}
	}
	return "", "", false
}

// weakPaths are all paths of so many hashes out of a few.
func weakPaths(n int) [][]string {
	out := [][]string{nil}
	for range n {
		var longer [][]string
		for _, p := range out {
			for _, x := range weakBytes() {
				longer = append(longer, append(p[:len(p):len(p)], weakHash(x)))
			}
		}
		out = longer
	}
	return out
}

// P15.6, P15.7: two leaves at one place under one root lead to the first two texts of one sum, from the root on.
func TestWeakSums(t *testing.T) {
	if sha.Sum(nil) != weakHash(0) {
		t.Skip("the sums are not weak: TestWeak runs this")
	}
	places := 0
	for size := 1; size <= 5; size++ {
		for index := range size {
			_, path := byRows(leaves(size), index)
			all := weakPaths(len(path))
			for _, pa := range all {
				for _, pb := range all {
					for _, x := range weakBytes() {
						for _, y := range weakBytes() {
							if collides(t, index, size, weakHash(x), pa, weakHash(y), pb) {
								places++
							}
						}
					}
				}
			}
		}
	}
	if places < 1000 {
		t.Error("few places", places)
	}
	weakRefused(t)
}

// collides holds Collide against the chapter's words, and CheckPath under the root that comes.
func collides(t *testing.T, index, size int, a string, pa []string, b string, pb []string) bool {
	t.Helper()
	x, y, is := Collide(index, size, a, pa, b, pb)
	wantX, wantY, want := wantCollide(index, size, a, pa, b, pb)
	if is != want || string(x) != wantX || string(y) != wantY {
		t.Errorf("Collide(%d, %d, %x, %x, %x, %x): %x, %x, %v; not %x, %x, %v", index, size, a, pa, b, pb, x, y, is, wantX, wantY, want)
	}
	if is && (len(x) != 65 || len(y) != 65 || bytes.Equal(x, y) || sha.Sum(x) != sha.Sum(y)) {
		t.Errorf("%x, %x", x, y)
	}
	_, root := wantInputs(a, index, size, pa)
	both := CheckPath(a, index, size, pa, root) == api.OK && CheckPath(b, index, size, pb, root) == api.OK
	if (both && a != b) != is {
		t.Errorf("%x and %x at %d of %d, %x and %x: %v", a, b, index, size, pa, pb, is)
	}
	return is
}

// weakRefused: what CheckPath does not take leads to nothing, though the sums are the same; nor does a number that may not be.
func weakRefused(t *testing.T) {
	t.Helper()
	a, b, c := weakHash(0), weakHash(3), weakHash(6)
	if _, _, is := Collide(0, 2, a, []string{c}, b, []string{c}); !is {
		t.Error("the sums are not the same")
	}
	for _, s := range []string{"", a[:31], a + "\x00", a + a} {
		noCollide(t, 0, 2, s, []string{c}, b, []string{c})
		noCollide(t, 0, 2, b, []string{c}, s, []string{c})
		noCollide(t, 0, 2, a, []string{s}, b, []string{c})
		noCollide(t, 0, 2, a, []string{c}, b, []string{s})
	}
	for _, p := range [][]string{nil, {c, c}} {
		noCollide(t, 0, 2, a, p, b, []string{c})
		noCollide(t, 0, 2, a, []string{c}, b, p)
		noCollide(t, 0, 2, a, p, b, p)
	}
	for _, x := range [][2]int{{-1, 2}, {2, 2}, {0, 0}, {0, -1}, {0, 1}, {0, 3}, {0, 1<<40 + 1}} {
		noCollide(t, x[0], x[1], a, []string{c}, b, []string{c})
	}
	long := strings.Split(strings.Repeat(c+"/", 39)+c, "/")
	x, y, is := Collide(0, 1<<40, a, long, b, long)
	if want := "\x01" + a + c; !is || string(x) != want || string(y) != "\x01"+b+c {
		t.Errorf("of 2^40 leaves: %x, %x, %v", x, y, is)
	}
	noCollide(t, 0, 1<<40+1, a, append(long, c), b, append(long, c))
	x[0], y[0] = 7, 7
	if again, _, _ := Collide(0, 1<<40, a, long, b, long); again[0] != 1 {
		t.Error("an answer is kept")
	}
}
