package join

import (
	"slices"

	"sawyer/api"
	"sawyer/code"
	"sawyer/key"
	"sawyer/rows"
	"sawyer/tile"
	"sawyer/txn"
)

// Tables of a tree; in the first one it has one row, with nothing behind its key.
const (
	treeTable  = 0
	waitTable  = 2
	leafTable  = 3
	placeTable = 4
	nodeTable  = 5
)

// A row is what is written by a key: a value, or that it is gone.
type row struct {
	key   []byte
	gone  bool
	value []byte
}

func (r row) write(t *txn.Txn) api.Errno {
	if r.gone {
		return t.Delete(r.key)
	}
	return t.Put(r.key, r.value)
}

// put writes rows, one by one; the first error ends it.
func put(t *txn.Txn, l ...row) api.Errno {
	for _, r := range l {
		if e := r.write(t); e != api.OK {
			return e
		}
	}
	return api.OK
}

// kept is a row's value, where there must be one.
func kept(t *txn.Txn, k []byte) ([]byte, api.Errno) {
	b, e := t.Get(k)
	if e == api.ErrNone {
		return nil, api.ErrCorrupt
	}
	return b, e
}

// guardTree guards a tree's row, lest it be frozen or deleted meanwhile.
func guardTree(t *txn.Txn, id int) api.Errno { return t.Guard(restKey(id, treeTable, nil)) }

// firstWaiting are the rows of the leaves that have waited longest.
func firstWaiting(t *txn.Txn, id, most int) []api.Entry {
	first, last := numberKey(id, waitTable, 0), numberKey(id, waitTable, api.MaxNum)
	l := slices.DeleteFunc(t.Scan(first, key.Next(last)), func(x api.Entry) bool {
		return len(x.Key) != len(first) // no number's
	})
	return l[:min(len(l), most)]
}

// placeOf is where a leaf of that hash is; api.ErrNone, if it was not queued.
func placeOf(t *txn.Txn, id int, leaf string) (Place, api.Errno) {
	b, e := t.Get(placeKey(id, leaf))
	if e != api.OK {
		return Place{}, e
	}
	return readPlace(b)
}

// placeRow tells where a leaf of that hash is.
func placeRow(id int, leaf string, p Place) row {
	in := 0
	if p.In {
		in = 1
	}
	return row{key: placeKey(id, leaf), value: code.PutNum(code.PutNum(nil, in), p.N)}
}

func readPlace(b []byte) (Place, api.Errno) {
	in, rest, e := code.TakeNum(b)
	if e != api.OK || in > 1 {
		return Place{}, api.ErrCorrupt
	}
	n, rest, e := code.TakeNum(rest)
	if e != api.OK || len(rest) > 0 {
		return Place{}, api.ErrCorrupt
	}
	return Place{In: in == 1, N: n}, api.OK
}

func placeKey(id int, leaf string) []byte { return restKey(id, placeTable, []byte(leaf)) }

func nodeKey(id int, p tile.Pos) []byte {
	return restKey(id, nodeTable, code.PutFix(code.PutFix(nil, p.Level), p.Index))
}

// restKey is the key of what is behind a tree's table. It is asked for trees that are there, as is numberKey; where there is no such key, nothing is put by none.
func restKey(id, table int, rest []byte) []byte {
	k, _ := key.Make(id, table, rest)
	return k
}

func numberKey(id, table, n int) []byte {
	k, _ := rows.Row(id, table, n)
	return k
}
