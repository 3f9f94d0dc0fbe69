package rows

import (
	"bytes"

	"sawyer/api"
	"sawyer/key"
	"sawyer/txn"
)

// Tables of a tree. Some have one row and nothing behind their key, those from firstNumbered to lastNumbered may be asked for a number's key.
const (
	treeTable     = 0
	countTable    = 1
	headTable     = 6
	leaseTable    = 7
	firstNumbered = 2
	lastNumbered  = 7
)

// A kind of rows is the table in which each tree has one, and the codec: which rows may be, how one is laid, and how it is taken from bytes.
type kind[T any] struct {
	table int
	mayBe func(row T) bool
	lay   func(row T) []byte
	take  func(r *reader) T
}

func trees() kind[Tree] { return kind[Tree]{treeTable, Tree.mayBe, Tree.lay, takeTree} }

func counts() kind[Count] { return kind[Count]{countTable, Count.mayBe, Count.lay, takeCount} }

func heads() kind[Head] { return kind[Head]{headTable, Head.mayBe, Head.lay, takeHead} }

func leases() kind[Lease] { return kind[Lease]{leaseTable, Lease.mayBe, Lease.lay, takeLease} }

// amounts tell how many trees there have been.
func amounts() kind[int] {
	lay := func(n int) []byte { return numBytes(n) }
	return kind[int]{treeTable, isNum, lay, (*reader).num}
}

// encode is a row's bytes.
func (k kind[T]) encode(row T) ([]byte, api.Errno) {
	if !k.mayBe(row) {
		return nil, api.ErrArg
	}
	return k.lay(row), api.OK
}

// decode is the row of bytes. What is taken tells no fault: bytes are a row's just if it is encoded as they are.
func (k kind[T]) decode(b []byte) (T, api.Errno) {
	row := k.take(&reader{rest: b})
	if again, e := k.encode(row); e != api.OK || !bytes.Equal(again, b) {
		var none T
		return none, api.ErrCorrupt
	}
	return row, api.OK
}

// key is where a tree's row stands. Nobody asks it for an id that may not be.
func (k kind[T]) key(id int) []byte {
	out, _ := key.Make(id, k.table, nil)
	return out
}

// get is a tree's row; api.ErrNone, if it has none.
func (k kind[T]) get(t *txn.Txn, id int) (T, api.Errno) {
	b, e := t.Get(k.key(id))
	if e != api.OK {
		var none T
		return none, e
	}
	return k.decode(b)
}

// getOrZero is a tree's row; the zero one, if it has none.
func (k kind[T]) getOrZero(t *txn.Txn, id int) (T, api.Errno) {
	row, e := k.get(t, id)
	if e == api.ErrNone {
		return row, api.OK
	}
	return row, e
}

// put writes a tree's row.
func (k kind[T]) put(t *txn.Txn, id int, row T) api.Errno {
	b, e := k.encode(row)
	if e != api.OK {
		return e
	}
	return t.Put(k.key(id), b)
}

// ofTree is getOrZero for whoever may ask for a tree that may not be.
func (k kind[T]) ofTree(t *txn.Txn, id int) (T, api.Errno) {
	if !isTree(id) {
		var none T
		return none, api.ErrNoTree
	}
	return k.getOrZero(t, id)
}

// putOfTree is put, likewise.
func (k kind[T]) putOfTree(t *txn.Txn, id int, row T) api.Errno {
	if !isTree(id) {
		return api.ErrNoTree
	}
	return k.put(t, id, row)
}
