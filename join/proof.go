package join

import (
	"sawyer/api"
	"sawyer/tile"
	"sawyer/txn"
)

// proof is made of what is kept: each of its hashes stands for leaves, which nodes tells of a part and of all size.
func proof(t *txn.Txn, id, part, size int, nodes func(part, size int) ([][]tile.Pos, api.Errno)) ([]string, api.Errno) {
	h, e := Latest(t, id)
	if e != api.OK {
		return nil, e
	}
	if size > h.Size {
		return nil, api.ErrRange
	}
	l, e := nodes(part, size)
	if e != api.OK {
		return nil, e
	}
	var out []string
	for _, side := range l {
		root, e := rootOf(t, id, side)
		if e != api.OK {
			return nil, e
		}
		out = append(out, root)
	}
	return out, api.OK
}

// rootOf is the root of the leaves for which nodes stand.
func rootOf(t *txn.Txn, id int, nodes []tile.Pos) (string, api.Errno) {
	var l []string
	for _, p := range nodes {
		b, e := kept(t, nodeKey(id, p))
		if e != api.OK {
			return "", e
		}
		if len(b) != api.HashSize {
			return "", api.ErrCorrupt
		}
		l = append(l, string(b))
	}
	return tile.Fold(l), api.OK
}
