package tree

import (
	"slices"

	"baton/api"
	"baton/keys"
)

// MayTxn tells whether a transaction may be. How many parts it has is asked first, so that long lists are not gone over.
func MayTxn(x api.Txn) bool {
	if len(x.Conds) > api.MaxConds || len(x.Ops) > api.MaxOps {
		return false
	}
	for _, c := range x.Conds {
		if !keys.Key(c.Key) || c.Mod < 0 || c.Mod > api.MaxRev {
			return false
		}
	}
	for i, op := range x.Ops {
		ofItsKey := func(other api.Op) bool { return other.Key == op.Key }
		if !mayOp(op) || slices.ContainsFunc(x.Ops[:i], ofItsKey) {
			return false
		}
	}
	return true
}

func mayOp(op api.Op) bool {
	if op.Del {
		return keys.Key(op.Key) && op.Val == ""
	}
	return keys.Key(op.Key) && len(op.Val) <= api.MaxVal
}

// mayEntry tells whether an entry may be of a revision.
func mayEntry(x api.Entry, rev int64) bool {
	return keys.Key(x.Key) && len(x.Val) <= api.MaxVal && x.Made >= 1 && x.Mod >= x.Made && x.Mod <= rev
}
