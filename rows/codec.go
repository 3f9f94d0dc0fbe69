package rows

import (
	"math/bits"
	"slices"

	"sawyer/api"
	"sawyer/code"
)

func (t Tree) mayBe() bool {
	return isTree(t.Id) && t.State >= api.Active && t.State <= api.Deleted && t.Quota >= 0 && t.Quota <= api.MaxPend &&
		len(t.Name) >= 1 && len(t.Name) <= api.MaxName && isHash(t.Key)
}

func (t Tree) lay() []byte {
	return code.PutText(code.PutText(numBytes(t.Id, t.State, t.Quota), t.Name), t.Key)
}

func takeTree(r *reader) Tree {
	return Tree{Id: r.num(), State: r.num(), Quota: r.num(), Name: r.text(api.MaxName), Key: r.text(api.HashSize)}
}

func (c Count) mayBe() bool { return isNum(c.Next) && isNum(c.Pending) }

func (c Count) lay() []byte { return numBytes(c.Next, c.Pending) }

func takeCount(r *reader) Count { return Count{Next: r.num(), Pending: r.num()} }

func (h Head) mayBe() bool {
	return isNum(h.Size) && isNum(h.Tick) && isNum(h.Epoch) && isHash(h.Root) && isHash(h.Sig) &&
		len(h.Nodes) == nodesOf(h.Size) && !slices.ContainsFunc(h.Nodes, isNoHash)
}

func (h Head) lay() []byte {
	out := numBytes(h.Size, h.Tick, h.Epoch)
	out = append(out, h.Root...)
	out = append(out, h.Sig...)
	for _, node := range h.Nodes {
		out = append(out, node...)
	}
	return out
}

func takeHead(r *reader) Head {
	h := Head{Size: r.num(), Tick: r.num(), Epoch: r.num(), Root: r.hash(), Sig: r.hash()}
	for range nodesOf(h.Size) {
		h.Nodes = append(h.Nodes, r.hash())
	}
	return h
}

func (l Lease) mayBe() bool { return isNum(l.Who) && isNum(l.Epoch) && isNum(l.Until) }

func (l Lease) lay() []byte { return numBytes(l.Who, l.Epoch, l.Until) }

func takeLease(r *reader) Lease { return Lease{Who: r.num(), Epoch: r.num(), Until: r.num()} }

func isNum(n int) bool { return n >= 0 && n <= api.MaxNum }

func isHash(s string) bool { return len(s) == api.HashSize }

func isNoHash(s string) bool { return !isHash(s) }

// nodesOf is how many nodes a head of that size has.
func nodesOf(size int) int { return bits.OnesCount(uint(size)) }

func numBytes(l ...int) []byte {
	var out []byte
	for _, n := range l {
		out = code.PutNum(out, n)
	}
	return out
}

// A reader takes what stands next in bytes. Where that is none, it takes a zero value, and nothing is left.
type reader struct{ rest []byte }

func (r *reader) num() int {
	n, rest, _ := code.TakeNum(r.rest)
	r.rest = rest
	return n
}

func (r *reader) text(most int) string {
	s, rest, _ := code.TakeText(r.rest, most)
	r.rest = rest
	return s
}

// hash takes fewer bytes than a hash has, if fewer are left.
func (r *reader) hash() string {
	size := min(api.HashSize, len(r.rest))
	s := string(r.rest[:size])
	r.rest = r.rest[size:]
	return s
}
