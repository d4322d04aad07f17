package tree_test

import (
	"slices"
	"strings"
	"testing"

	"baton/api"
	"baton/tree"
)

// conds are so many conditions of keys that are unlike.
func conds(n int) []api.Cond {
	var l []api.Cond
	for i := range n {
		l = append(l, api.Cond{Key: string([]byte{'a' + byte(i)})})
	}
	return l
}

// puts are so many ops of keys that are unlike.
func puts(n int) []api.Op {
	var l []api.Op
	for i := range n {
		l = append(l, api.Op{Key: string([]byte{'a' + byte(i)})})
	}
	return l
}

// P12.1: how many conditions and ops a transaction may have.
func TestMayCounts(t *testing.T) {
	for n := range maxConds + 3 {
		for m := range maxOps + 3 {
			checkMay(t, api.Txn{Conds: conds(n), Ops: puts(m)}, n <= maxConds && m <= maxOps)
		}
	}
	checkMay(t, api.Txn{Conds: []api.Cond{}, Ops: []api.Op{}}, true)
	checkMay(t, api.Txn{Conds: slices.Repeat(conds(1), maxConds)}, true)
	checkMay(t, api.Txn{Conds: slices.Repeat(conds(1), maxConds+1)}, false)
	checkMay(t, api.Txn{Conds: slices.Repeat(conds(1), 1<<20)}, false)
	checkMay(t, api.Txn{Ops: slices.Repeat(puts(1), 1<<20)}, false)
}

// P12.1: a condition's Mod, and its key, wherever it stands; a key may have more of them.
func TestMayConds(t *testing.T) {
	for _, mod := range []int64{-1 << 63, -2, -1, 0, 1, 2, maxRev - 1, maxRev, maxRev + 1, 1<<63 - 1} {
		for at := range maxConds {
			l := conds(maxConds)
			l[at].Mod = mod
			checkMay(t, api.Txn{Conds: l}, mod >= 0 && mod <= maxRev)
		}
	}
	for _, key := range some {
		checkMay(t, api.Txn{Conds: []api.Cond{{Key: key}}}, true)
		checkMay(t, api.Txn{Conds: []api.Cond{{Key: key}, {Key: key}}}, true)
		checkMay(t, api.Txn{Conds: []api.Cond{{Key: key, Mod: 1}, {Key: key, Mod: 2}}, Ops: []api.Op{{Key: key}}}, true)
	}
	for _, key := range noKeys {
		for at := range maxConds {
			l := conds(maxConds)
			l[at].Key = key
			checkMay(t, api.Txn{Conds: l}, false)
		}
		checkMay(t, api.Txn{Conds: []api.Cond{{Key: key}}}, false)
	}
}

// P12.1: an op's key, and its value, wherever it stands; no two are of one key.
func TestMayOps(t *testing.T) {
	check := func(op api.Op, want bool) {
		t.Helper()
		checkMay(t, api.Txn{Ops: []api.Op{op}}, want)
		for at := range maxOps {
			l := puts(maxOps)
			l[at] = op
			checkMay(t, api.Txn{Ops: l}, want)
		}
	}
	for _, n := range []int{0, 1, maxVal - 1, maxVal, maxVal + 1, maxVal + 2, 1 << 20} {
		for _, b := range []string{"v", "\x00", "\xFF"} {
			check(api.Op{Key: "z", Val: strings.Repeat(b, n)}, n <= maxVal)
			check(api.Op{Del: true, Key: "z", Val: strings.Repeat(b, n)}, n == 0)
		}
	}
	for _, key := range some {
		if len(key) > 1 {
			check(api.Op{Key: key}, true)
			check(api.Op{Del: true, Key: key}, true)
		}
	}
	for _, key := range noKeys {
		check(api.Op{Key: key}, false)
		check(api.Op{Del: true, Key: key}, false)
	}
	for i := range maxOps {
		for j := range i {
			for kind := range 4 {
				l := puts(maxOps)
				l[i] = api.Op{Del: kind&1 != 0, Key: l[j].Key}
				l[j].Del = kind&2 != 0
				checkMay(t, api.Txn{Ops: l}, false)
			}
		}
	}
	checkMay(t, put("a", "x", "a", "x"), false)
	checkMay(t, put("a", "-", "a", "-"), false)
	checkMay(t, put("a", "x", "aa", "x", "a/", "-"), true)
}

// P12.3: transactions with ops and without, under conditions that hold and do not, done to one tree: each tells what it is to.
func TestDo(t *testing.T) {
	x, p := tree.New(), newPlain()
	mod := func(l ...any) []api.Cond {
		var conds []api.Cond
		for i := 0; i < len(l); i += 2 {
			conds = append(conds, api.Cond{Key: l[i].(string), Mod: int64(l[i+1].(int))})
		}
		return conds
	}
	check := func(want bool, rev int64, txn api.Txn) {
		t.Helper()
		if done := checkDo(t, x, p, txn); done != want || x.Rev() != rev {
			t.Errorf("Do(%s): %t, Rev %d; want %t, %d", shown(txn), done, x.Rev(), want, rev)
		}
		checkTree(t, x, p, some)
	}
	check(true, 0, api.Txn{})
	check(true, 0, given(mod("a", 0, "b", 0)))
	check(false, 0, given(mod("a", 0, "b", 1)))
	check(true, 1, put("b", "x", "a", "y", "c", "-"))
	check(true, 2, put("c", "-"))
	check(true, 3, put("a", "y"))
	check(false, 3, given(mod("a", 1), "a", "z"))
	check(false, 3, given(mod("a", 2), "a", "z"))
	check(true, 4, given(mod("a", 3), "a", "z"))
	check(true, 4, given(mod("a", 4, "a", 4, "b", 1, "c", 0)))
	check(false, 4, given(mod("a", 4, "a", 3), "d", "x"))
	check(false, 4, given(mod("a", 3, "a", 4), "d", "x"))
	check(false, 4, given(mod("a", 4, "b", 1, "c", 1), "d", "x"))
	check(false, 4, given(mod("a", 0), "a", "-"))
	check(true, 5, given(mod("a", 4), "a", "-", "b", "-", "c", "x"))
	check(true, 6, given(mod("a", 0, "b", 0), "a", ""))
	check(true, 7, given(mod("c", 5), "d", "x", "c", "", "b", "-", "a", "-"))
	check(false, 7, given(mod("a", 6), "a", "x"))
	check(true, 8, put("h", "1", "g", "2", "f", "3", "e", "4", "d", "5", "c", "6", "b", "7", "a", "8"))
	check(true, 9, put("a", "-", "b", "-", "c", "-", "d", "-", "e", "-", "f", "-", "g", "-", "h", "-"))
	check(true, 10, put("a", "x"))
}

// P12.3: the events of a transaction, in the row of its ops, and as of which revision keys are Made and put.
func TestDoEvents(t *testing.T) {
	x := built(t, put("a", "x", "b", "y", "c", "z"), put("q", "-"))
	events, done, e := x.Do(put("d", "new", "c", "-", "none", "-", "a", "x", "b", ""))
	want := []api.Event{{Rev: 3, Key: "d", Val: "new"}, {Rev: 3, Del: true, Key: "c"}, {Rev: 3, Key: "a", Val: "x"}, {Rev: 3, Key: "b"}}
	if !slices.Equal(events, want) || !done || e != api.OK {
		t.Errorf("%v, %t, %d", events, done, e)
	}
	checkSince(t, x, "", 3, want, api.OK)
	checkSince(t, x, "a", 3, want[2:3], api.OK)
	checkList(t, x, "", []api.Entry{{Key: "a", Val: "x", Made: 1, Mod: 3}, {Key: "b", Made: 1, Mod: 3}, {Key: "d", Val: "new", Made: 3, Mod: 3}})
	x.Do(put("c", "again", "a", "-"))
	x.Do(put("c", "and again", "a", "again"))
	checkList(t, x, "", []api.Entry{{Key: "a", Val: "again", Made: 5, Mod: 5}, {Key: "b", Made: 1, Mod: 3}, {Key: "c", Val: "and again", Made: 4, Mod: 5}, {Key: "d", Val: "new", Made: 3, Mod: 3}})
}

// P12.3: at the greatest revision ops are refused, if the conditions hold; without ops nothing is.
func TestDoGreatest(t *testing.T) {
	x := made(t, maxRev-1, api.Entry{Key: "a", Val: "x", Made: 1, Mod: 2})
	p := plainOf(x.List(""), maxRev-1)
	holds := func() []api.Cond { return p.asIs("a", "b") }
	checkDo(t, x, p, given(holds()))
	if !checkDo(t, x, p, given(holds(), "a", "y")) || x.Rev() != maxRev {
		t.Error("Rev:", x.Rev())
	}
	checkTree(t, x, p, some)
	checkRefused(t, x, put("a", "z"), api.ErrTooLarge)
	checkRefused(t, x, put("b", "-"), api.ErrTooLarge)
	checkRefused(t, x, given(holds(), "a", "z"), api.ErrTooLarge)
	checkRefused(t, x, given([]api.Cond{{Key: "a", Mod: maxRev}}, "a", "-"), api.ErrTooLarge)
	checkRefused(t, x, given([]api.Cond{{Key: "a", Mod: 2}}, "a", "z"), api.OK)
	checkRefused(t, x, given([]api.Cond{{Key: "b", Mod: 1}}), api.OK)
	checkRefused(t, x, put("a", strings.Repeat("v", maxVal+1)), api.ErrForm)
	checkRefused(t, x, put("a", "x", "a", "x"), api.ErrForm)
	for _, txn := range []api.Txn{{}, given(holds())} {
		if !checkDo(t, x, p, txn) {
			t.Error("without ops it is not done")
		}
	}
	checkTree(t, x, p, some)
	checkSince(t, x, "", maxRev, []api.Event{{Rev: maxRev, Key: "a", Val: "y"}}, api.OK)
	checkSince(t, x, "", maxRev+1, nil, api.OK)
	checkSince(t, x, "", maxRev+2, nil, api.ErrArg)
	checkCut(t, x, maxRev+1, api.ErrArg)
	checkCut(t, x, maxRev, api.OK)
	checkSince(t, x, "", maxRev, nil, api.ErrGone)
}

// P12.3, R3: what may not be is refused ahead of all else, and changes nothing.
func TestDoWrong(t *testing.T) {
	for _, x := range []*tree.Tree{tree.New(), built(t, put("a", "x"), put("a", "y")), made(t, maxRev)} {
		fails := []api.Cond{{Key: "q", Mod: 7}}
		for _, key := range noKeys {
			checkRefused(t, x, put(key, "x"), api.ErrForm)
			checkRefused(t, x, put("a", "x", key, "-"), api.ErrForm)
			checkRefused(t, x, given([]api.Cond{{Key: key}}, "a", "x"), api.ErrForm)
			checkRefused(t, x, given(append(slices.Clone(fails), api.Cond{Key: key}), "a", "x"), api.ErrForm)
			checkRefused(t, x, given(fails, key, "x"), api.ErrForm)
		}
		checkRefused(t, x, given([]api.Cond{{Key: "a", Mod: -1}}), api.ErrForm)
		checkRefused(t, x, given([]api.Cond{{Key: "a", Mod: maxRev + 1}}), api.ErrForm)
		checkRefused(t, x, given(fails, "a", "x", "a", "-"), api.ErrForm)
		checkRefused(t, x, given(fails, "a", strings.Repeat("v", maxVal+1)), api.ErrForm)
		checkRefused(t, x, api.Txn{Conds: conds(maxConds + 1)}, api.ErrForm)
		checkRefused(t, x, api.Txn{Ops: puts(maxOps + 1)}, api.ErrForm)
		checkRefused(t, x, api.Txn{Ops: []api.Op{{Del: true, Key: "a", Val: "x"}}}, api.ErrForm)
		checkRefused(t, x, given(fails, "a", "x"), api.OK)
		checkRefused(t, x, given(fails), api.OK)
	}
}

// P12.1: Do takes just what MayTxn tells to be one: any transactions, with a part that is wrong now and then.
func TestDoAny(t *testing.T) {
	r := newRow()
	var count [3]int
	for range 300 {
		x, p := tree.New(), newPlain()
		for range 20 {
			txn := r.txn(p, some)
			may := true
			switch at := r.below(24); {
			case at == 0:
				txn.Conds, may = append(txn.Conds, api.Cond{Key: r.of(noKeys)}), false
			case at == 1:
				txn.Ops, may = append(txn.Ops, api.Op{Key: r.of(noKeys)}), false
			case at == 2 && len(txn.Ops) > 0:
				txn.Ops, may = append(txn.Ops, api.Op{Del: true, Key: txn.Ops[r.below(len(txn.Ops))].Key}), false
			case at == 3:
				txn.Conds, may = append(txn.Conds, api.Cond{Key: "a", Mod: -int64(1 + r.below(3))}), false
			}
			checkMay(t, txn, may)
			switch {
			case !may:
				checkRefused(t, x, txn, api.ErrForm)
				count[0]++
			case checkDo(t, x, p, txn):
				count[1]++
			default:
				count[2]++
			}
		}
		checkTree(t, x, p, some)
	}
	if slices.Min(count[:]) < 300 {
		t.Error("too few of a kind:", count)
	}
}
