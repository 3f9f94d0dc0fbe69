package join

import (
	"sawyer/api"
	"sawyer/hash"
	"sawyer/rows"
	"sawyer/span"
	"sawyer/tile"
	"sawyer/txn"
)

// letWait lays a leaf behind those that wait.
func letWait(t *txn.Txn, x rows.Tree, leaf []byte) (Place, api.Errno) {
	if x.State == api.Frozen {
		return Place{}, api.ErrFrozen
	}
	c, e := rows.GetCount(t, x.Id)
	if e != api.OK {
		return Place{}, e
	}
	if c.Pending >= x.Quota {
		return Place{}, api.ErrQuota
	}
	if e := guardTree(t, x.Id); e != api.OK {
		return Place{}, e
	}
	p := Place{N: c.Next}
	waits := row{key: numberKey(x.Id, waitTable, p.N), value: leaf}
	if e := put(t, waits, placeRow(x.Id, hash.Leaf(leaf), p)); e != api.OK {
		return Place{}, e
	}
	if e := rows.PutCount(t, x.Id, rows.Count{Next: c.Next + 1, Pending: c.Pending + 1}); e != api.OK {
		return Place{}, e
	}
	return p, api.OK
}

// takeIn takes leaves that wait in, one by one, behind those of a span; the span of all of them.
func takeIn(t *txn.Txn, id int, s span.Span, first []api.Entry) (span.Span, api.Errno) {
	for _, w := range first {
		leaf := hash.Leaf(w.Value)
		waited := row{key: w.Key, gone: true}
		isIn := row{key: numberKey(id, leafTable, s.Size), value: w.Value}
		if e := put(t, waited, isIn, placeRow(id, leaf, Place{In: true, N: s.Size})); e != api.OK {
			return span.Span{}, e
		}
		nodes, e := nodeRows(id, s, leaf)
		if e != api.OK {
			return span.Span{}, e
		}
		if e := put(t, nodes...); e != api.OK {
			return span.Span{}, e
		}
		s, _ = span.Push(s, leaf) // tile.New refuses what no span has room for
	}
	return s, api.OK
}

// nodeRows are those of the nodes that a leaf makes whole behind those of a span.
func nodeRows(id int, s span.Span, leaf string) ([]row, api.Errno) {
	whole, e := tile.New(s.Size)
	if e != api.OK {
		return nil, api.ErrArg
	}
	var out []row
	node := leaf
	for level, p := range whole {
		if level > 0 {
			// The span's nodes are the left ones of what becomes whole, the least of them the last.
			node = hash.Node(s.Nodes[len(s.Nodes)-level], node)
		}
		out = append(out, row{key: nodeKey(id, p), value: []byte(node)})
	}
	return out, api.OK
}

// signed is the head of a span.
func signed(x rows.Tree, s span.Span, now, epoch int) rows.Head {
	root, _ := span.Root(s) // a span that was pushed may be
	h := rows.Head{Size: s.Size, Root: root, Tick: now, Epoch: epoch, Nodes: s.Nodes}
	h.Sig = rows.Sign(x, h)
	return h
}

// putHead writes a head, and the count that goes with it.
func putHead(t *txn.Txn, id int, h rows.Head, c rows.Count) api.Errno {
	if e := rows.PutHead(t, id, h); e != api.OK {
		return e
	}
	return rows.PutCount(t, id, c)
}
