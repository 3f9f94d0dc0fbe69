package logs

import (
	"slices"

	"sawyer/api"
	"sawyer/join"
	"sawyer/lease"
	"sawyer/rows"
	"sawyer/txn"
)

// operate does in a transaction what a call's operation says.
func operate(t *txn.Txn, c Call, now int) Answer {
	var a Answer
	switch c.Op {
	case Create:
		a.N, a.E = create(t, c)
	case Freeze:
		a.E = turnTree(t, c.Tree, func(x *rows.Tree) { x.State = api.Frozen })
	case Delete:
		a.E = turnTree(t, c.Tree, func(x *rows.Tree) { x.State = api.Deleted })
	case Quota:
		a.E = setQuota(t, c.Tree, c.A)
	case List:
		a.Trees = slices.DeleteFunc(rows.Trees(t), isDeleted)
	case Queue:
		var p join.Place
		p, a.Is, a.E = join.Queue(t, c.Tree, c.Data)
		a.N, a.In = p.N, p.In
	case Head:
		a.Head, a.E = join.Latest(t, c.Tree)
	case Inclusion:
		a.Hashes, a.E = join.Inclusion(t, c.Tree, c.A, c.B)
	case Consistency:
		a.Hashes, a.E = join.Consistency(t, c.Tree, c.A, c.B)
	case Range:
		a.Leaves, a.E = join.Leaves(t, c.Tree, c.A, c.B)
	case Take:
		a.Lease, a.E = lease.Take(t, c.Tree, c.A, now)
	case Integrate:
		a.Head, a.E = join.Integrate(t, c.Tree, c.A, c.B, c.C, now)
	case Release:
		a.E = lease.Drop(t, c.Tree, c.A, c.B, now)
	case Waiting:
		a.N, a.E = join.Waiting(t, c.Tree)
	case Leased:
		a.Lease, a.E = rows.GetLease(t, c.Tree)
	default:
		a.E = api.ErrArg
	}
	return a
}

// writes: did an operation that answered so write something?
func writes(op int, a Answer) bool {
	switch op {
	case List, Head, Inclusion, Consistency, Range, Waiting, Leased:
		return false
	case Queue:
		return !a.Is
	}
	return true
}

// hangsOnClock: is what an operation writes right at the tick alone at which it asked?
func hangsOnClock(op int) bool { return op == Take || op == Integrate || op == Release }

// create makes a tree; its Id. Whether there may be such a tree is asked ahead of that, so by an Id that any tree may have.
func create(t *txn.Txn, c Call) (int, api.Errno) {
	x := rows.Tree{Id: 1, State: api.Active, Quota: c.A, Name: c.Name, Key: c.Key}
	if _, e := rows.EncodeTree(x); e != api.OK {
		return 0, e
	}
	id, e := rows.Fresh(t)
	if e != api.OK {
		return 0, e
	}
	x.Id = id
	if e := rows.PutTree(t, x); e != api.OK {
		return 0, e
	}
	return id, api.OK
}

// setQuota says how many leaves of a tree may wait.
func setQuota(t *txn.Txn, id, quota int) api.Errno {
	if quota < 0 || quota > api.MaxPend {
		return api.ErrArg
	}
	return turnTree(t, id, func(x *rows.Tree) { x.Quota = quota })
}

// turnTree writes a tree that is there anew.
func turnTree(t *txn.Txn, id int, turn func(x *rows.Tree)) api.Errno {
	x, e := rows.GetTree(t, id)
	if e != api.OK {
		return e
	}
	if isDeleted(x) {
		return api.ErrNoTree
	}
	turn(&x)
	return rows.PutTree(t, x)
}

func isDeleted(x rows.Tree) bool { return x.State == api.Deleted }
