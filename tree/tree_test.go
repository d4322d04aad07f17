package tree_test

import (
	"slices"
	"strings"
	"testing"

	"baton/api"
	"baton/tree"
)

// The chapter's examples.
func TestExamples(t *testing.T) {
	x := tree.New()
	check := func(txn api.Txn, rev int64, wantDone bool, want ...api.Event) {
		t.Helper()
		if events, done, e := x.Do(txn); !slices.Equal(events, want) || done != wantDone || e != api.OK || x.Rev() != rev {
			t.Errorf("Do(%v) = %v, %t, %d; Rev %d", txn, events, done, e, x.Rev())
		}
	}
	check(put("a", "x"), 1, true, api.Event{Rev: 1, Key: "a", Val: "x"})
	checkGet(t, x, "a", api.Entry{Key: "a", Val: "x", Made: 1, Mod: 1}, true)
	again := given([]api.Cond{{Key: "a", Mod: 1}}, "a", "y")
	check(again, 2, true, api.Event{Rev: 2, Key: "a", Val: "y"})
	checkGet(t, x, "a", api.Entry{Key: "a", Val: "y", Made: 1, Mod: 2}, true)
	check(again, 2, false)
	check(put("b", "-"), 3, true)
	checkSince(t, x, "", 2, []api.Event{{Rev: 2, Key: "a", Val: "y"}}, api.OK)
	checkCut(t, x, 2, api.OK)
	checkSince(t, x, "", 2, nil, api.ErrGone)
	checkSince(t, x, "", 3, nil, api.OK)
	checkSince(t, x, "", 5, nil, api.ErrArg)
}

// P12.1: New is a tree without entries; so is one that nothing was put into.
func TestNew(t *testing.T) {
	for _, x := range []*tree.Tree{tree.New(), new(tree.Tree), made(t, 0)} {
		checkTree(t, x, newPlain(), some)
		checkSame(t, x, tree.New(), true)
		checkSince(t, x, "", 1, nil, api.OK)
		checkSince(t, x, "", 0, nil, api.ErrArg)
		checkSince(t, x, "", 2, nil, api.ErrArg)
		checkCut(t, x, 0, api.OK)
		checkCut(t, x, 1, api.ErrArg)
		checkDo(t, x, newPlain(), put("a", "x", "b", "-"))
	}
	checkSame(t, tree.New(), tree.New(), true)
	one, other := tree.New(), tree.New()
	one.Do(put("a", "x"))
	checkNumbers(t, other, 0, 0, 0)
}

// P12.1: Of is a tree of these entries, of that revision, which is its Low.
func TestOf(t *testing.T) {
	r := newRow()
	sorted := slices.Sorted(slices.Values(some))
	for range 300 {
		rev := int64(1 + r.below(40))
		var l []api.Entry
		for _, key := range sorted {
			if r.odds(2) {
				made := 1 + int64(r.below(int(rev)))
				l = append(l, api.Entry{Key: key, Val: r.val(), Made: made, Mod: made + int64(r.below(int(rev-made+1)))})
			}
		}
		before := slices.Clone(l)
		x, p := made(t, rev, l...), plainOf(l, rev)
		checkTree(t, x, p, some)
		for range 5 {
			checkDo(t, x, p, r.txn(p, some))
		}
		checkTree(t, x, p, some)
		if !slices.Equal(l, before) {
			t.Errorf("Of changed what it was handed: %s", shown(l))
		}
	}
}

// P12.1: entries and revisions at the ends of what may be.
func TestOfEnds(t *testing.T) {
	entry := func(key, val string, made, mod int64) api.Entry {
		return api.Entry{Key: key, Val: val, Made: made, Mod: mod}
	}
	check := func(rev int64, want api.Errno, l ...api.Entry) {
		t.Helper()
		x, e := tree.Of(l, rev)
		if e != want || (x == nil) != (want != api.OK) {
			t.Errorf("Of(%s, %d) = %t, %d; want %d", shown(l), rev, x != nil, e, want)
		}
		if e == api.OK {
			checkList(t, x, "", l)
			checkNumbers(t, x, len(l), rev, rev)
		}
	}
	for _, rev := range []int64{0, 1, 7, maxRev - 1, maxRev} {
		check(rev, api.OK)
	}
	for _, rev := range []int64{-1, -2, maxRev + 1, maxRev + 2, 1<<63 - 1, -1 << 63} {
		check(rev, api.ErrForm)
		check(rev, api.ErrForm, entry("a", "", 1, 1))
	}
	check(7, api.OK, entry("a", "", 1, 1))
	check(7, api.OK, entry("a", "", 1, 7), entry("b", "", 7, 7))
	check(7, api.OK, entry("a", "", 7, 7), entry("b", "", 7, 7))
	check(1, api.OK, entry("a", "", 1, 1))
	check(maxRev, api.OK, entry("a", "", 1, maxRev), entry("b", "", maxRev, maxRev))
	check(0, api.ErrForm, entry("a", "", 1, 1))
	check(0, api.ErrForm, entry("a", "", 0, 0))
	check(7, api.ErrForm, entry("a", "", 0, 0))
	check(7, api.ErrForm, entry("a", "", 0, 1))
	check(7, api.ErrForm, entry("a", "", -1, 1))
	check(7, api.ErrForm, entry("a", "", 1, 0))
	check(7, api.ErrForm, entry("a", "", 3, 2))
	check(7, api.ErrForm, entry("a", "", 7, 6))
	check(7, api.ErrForm, entry("a", "", 1, 8))
	check(7, api.ErrForm, entry("a", "", 8, 8))
	check(7, api.ErrForm, entry("a", "", 8, 7))
	check(maxRev, api.ErrForm, entry("a", "", 1, maxRev+1))
	check(7, api.OK, entry("a", strings.Repeat("\xFF", maxVal), 1, 1))
	check(7, api.ErrForm, entry("a", strings.Repeat("v", maxVal+1), 1, 1))
}

// P12.1: each key is one, and they rise, each once; what is wrong may stand anywhere.
func TestOfKeys(t *testing.T) {
	check := func(want api.Errno, l ...string) {
		t.Helper()
		var entries []api.Entry
		for _, key := range l {
			entries = append(entries, api.Entry{Key: key, Made: 1, Mod: 1})
		}
		if x, e := tree.Of(entries, 1); e != want || (x == nil) != (want != api.OK) {
			t.Errorf("Of(%s) = %t, %d; want %d", shown(l), x != nil, e, want)
		}
	}
	sorted := slices.Sorted(slices.Values(some))
	check(api.OK, sorted...)
	for _, key := range some {
		check(api.OK, key)
		check(api.ErrForm, key, key)
	}
	for i := range sorted {
		twice := slices.Insert(slices.Clone(sorted), i, sorted[i])
		check(api.ErrForm, twice...)
		for j := range i {
			turned := slices.Clone(sorted)
			turned[i], turned[j] = turned[j], turned[i]
			check(api.ErrForm, turned...)
		}
	}
	check(api.ErrForm, "a", "b", "a")
	for _, key := range noKeys {
		check(api.ErrForm, key)
		l := []string{"A", "b", key, "z"}
		slices.Sort(l)
		check(api.ErrForm, l...)
	}
}

// P12.2: Get, List, Len, Rev and Low, where each key may begin by another one, whatever is asked for.
func TestTold(t *testing.T) {
	x, p := tree.New(), newPlain()
	for i, key := range some {
		checkDo(t, x, p, put(key, "v"))
		if i%5 == 4 {
			checkDo(t, x, p, put(some[i-3], "-", some[i-1], "w"))
		}
		checkTree(t, x, p, some)
	}
	for _, prefix := range append([]string{"a/b/", "c/t", "c/", "c", "a/\x00", "a/\xFF", "zzz"}, noKeys...) {
		checkList(t, x, prefix, p.list(prefix))
	}
	for _, key := range noKeys {
		checkGet(t, x, key, api.Entry{}, false)
	}
}

// P12.2: Holds of keys that are there and not, each Mod, and of several.
func TestHolds(t *testing.T) {
	x := built(t, put("a", "x"), put("b", "y"), put("a", "z"), put("c", "v"), put("c", "-"))
	check := func(want bool, l ...api.Cond) {
		t.Helper()
		if got := x.Holds(l); got != want {
			t.Errorf("Holds(%s) = %t", shown(l), got)
		}
	}
	a, b, none := api.Cond{Key: "a", Mod: 3}, api.Cond{Key: "b", Mod: 2}, api.Cond{Key: "c"}
	wrong := api.Cond{Key: "b", Mod: 3}
	check(true)
	check(true, a)
	check(true, b)
	check(true, none)
	check(true, a, b, none)
	check(true, a, a, a)
	check(false, wrong)
	check(false, wrong, a, none)
	check(false, a, wrong, none)
	check(false, a, none, wrong)
	check(false, b, wrong)
	for _, mod := range []int64{-1, 0, 1, 2, 4, maxRev, maxRev + 3, -1 << 63} {
		check(false, api.Cond{Key: "a", Mod: mod})
		check(mod == 0, api.Cond{Key: "c", Mod: mod})
		check(mod == 0, api.Cond{Key: "d", Mod: mod})
	}
	for _, key := range noKeys {
		check(true, api.Cond{Key: key})
		check(false, api.Cond{Key: key, Mod: 1})
		check(false, api.Cond{Key: key, Mod: -1})
	}
	many := slices.Repeat([]api.Cond{a, b, none}, maxConds)
	check(true, many...)
	check(false, append(many, wrong)...)
}

// P12.2, P12.3: nobody's tree.
func TestNobody(t *testing.T) {
	var x *tree.Tree
	checkNumbers(t, x, 0, 0, 0)
	for _, key := range append(slices.Clone(noKeys), some...) {
		checkGet(t, x, key, api.Entry{}, false)
		checkList(t, x, key, nil)
		if !x.Holds([]api.Cond{{Key: key}}) || x.Holds([]api.Cond{{Key: key, Mod: 1}}) || x.Holds([]api.Cond{{Key: key}, {Key: key, Mod: -1}}) {
			t.Errorf("Holds of %.80q", key)
		}
	}
	if !x.Holds(nil) || x.Holds([]api.Cond{{Key: "a"}, {Key: "b", Mod: 2}}) {
		t.Error("Holds")
	}
	for _, txn := range []api.Txn{{}, put("a", "x"), put("", ""), given([]api.Cond{{Mod: 5}})} {
		if events, done, e := x.Do(txn); len(events) != 0 || done || e != api.ErrNil {
			t.Errorf("Do(%v) = %v, %t, %d", txn, events, done, e)
		}
	}
	for _, from := range []int64{-1, 0, 1, 2, maxRev + 2} {
		checkSince(t, x, "", from, nil, api.ErrNil)
		checkSince(t, x, "a", from, nil, api.ErrNil)
		checkSince(t, x, " ", from, nil, api.ErrNil)
		checkCut(t, x, from, api.ErrNil)
	}
	if x.Copy() != nil {
		t.Error("Copy")
	}
	checkSame(t, x, nil, true)
	checkSame(t, x, tree.New(), false)
	checkSame(t, x, built(t, put("a", "x")), false)
}

// P12.3: Copy of a tree, and of a new one, is the same, and not the one.
func TestCopy(t *testing.T) {
	for _, x := range []*tree.Tree{tree.New(), built(t, put("a", "x", "b", "y"), put("a", "-")), made(t, 3, api.Entry{Key: "a", Made: 2, Mod: 3})} {
		other := x.Copy()
		if other == nil || other == x {
			t.Fatal("Copy told", other)
		}
		checkSame(t, x, other, true)
		checkSame(t, x.Copy(), other.Copy(), true)
		x.Do(put("c", "z"))
		checkSame(t, x, other, false)
		other.Do(put("c", "z"))
		checkSame(t, x, other, true)
	}
}

// P12.3: trees that differ in one thing alone are not the same.
func TestSame(t *testing.T) {
	entry := api.Entry{Key: "b", Val: "x", Made: 2, Mod: 3}
	list := []*tree.Tree{
		made(t, 4, entry),
		made(t, 4),
		made(t, 5, entry),
		made(t, 4, api.Entry{Key: "a", Val: "x", Made: 2, Mod: 3}),
		made(t, 4, api.Entry{Key: "b", Val: "y", Made: 2, Mod: 3}),
		made(t, 4, api.Entry{Key: "b", Val: "x", Made: 1, Mod: 3}),
		made(t, 4, api.Entry{Key: "b", Val: "x", Made: 2, Mod: 4}),
		made(t, 4, entry, api.Entry{Key: "c", Val: "x", Made: 2, Mod: 3}),
		// Of revision 2, without entries, of Low 0: what happened differs alone, in whether anything did, its revision, its row, its key.
		built(t, put("c", "-"), put("c", "-")),
		built(t, put("c", "x"), put("c", "-")),
		built(t, put("d", "x"), put("d", "-")),
		built(t, put("c", "x", "d", "x"), put("c", "-", "d", "-")),
		built(t, put("d", "x", "c", "x"), put("c", "-", "d", "-")),
		built(t, put("c", "x", "d", "x"), put("d", "-", "c", "-")),
		// Likewise with an entry: its value meanwhile.
		built(t, put("a", "x"), put("a", "z")),
		built(t, put("a", "y"), put("a", "z")),
		// Of revision 3: when it was deleted, and whether it was put again.
		built(t, put("c", "x"), put("c", "-"), put("c", "-")),
		built(t, put("c", "x"), put("d", "-"), put("c", "-")),
		built(t, put("c", "x"), put("c", "x"), put("c", "-")),
	}
	for i, a := range list {
		for j, b := range list {
			checkSame(t, a, b, i == j)
		}
		checkSame(t, a, a.Copy(), true)
		checkSame(t, a, nil, false)
	}
	checkSame(t, nil, nil, true)
}

// P12.3: Low alone, where nothing happened behind it, tells two apart; what is cut no more does.
func TestSameLow(t *testing.T) {
	a := built(t, put("c", "-"), put("c", "-"), put("c", "-"))
	b := a.Copy()
	checkCut(t, b, 1, api.OK)
	checkSame(t, a, b, false)
	checkCut(t, a, 1, api.OK)
	checkSame(t, a, b, true)
	checkCut(t, a, 3, api.OK)
	checkSame(t, a, b, false)
	checkSame(t, a, made(t, 3), true)
	c := built(t, put("a", "x"), put("a", "z"))
	d := built(t, put("a", "y"), put("a", "z"))
	for _, x := range []*tree.Tree{c, d} {
		checkCut(t, x, 1, api.OK)
	}
	checkSame(t, c, d, true)
	checkCut(t, c, 2, api.OK)
	checkSame(t, c, made(t, 2, api.Entry{Key: "a", Val: "z", Made: 1, Mod: 2}), true)
}

// P12.3: how a tree came to what it is does not matter: keys that were put in other rows, and such as are there no more.
func TestSameWays(t *testing.T) {
	var l []api.Entry
	for i := range 200 {
		l = append(l, api.Entry{Key: string([]byte{'a' + byte(i/20), 'a' + byte(i%20)}), Made: 201, Mod: 201})
	}
	rows := [][]api.Entry{l, slices.Clone(l), slices.Clone(l)}
	slices.Reverse(rows[1])
	r := newRow()
	for i := range rows[2] {
		j := r.below(i + 1)
		rows[2][i], rows[2][j] = rows[2][j], rows[2][i]
	}
	var trees []*tree.Tree
	for _, row := range rows {
		x := tree.New()
		for _, y := range row {
			x.Do(put(y.Key, "v", "q", "-"))
		}
		for i, y := range row {
			if i%3 != 0 {
				x.Do(put(y.Key, "-"))
			}
		}
		var last []string
		for _, y := range x.List("") {
			last = append(last, y.Key, "-")
			if len(last) == 2*maxOps {
				x.Do(put(last...))
				last = nil
			}
		}
		x.Do(put(last...))
		x.Do(put("z", "v"))
		checkCut(t, x, x.Rev(), api.OK)
		trees = append(trees, x)
	}
	for _, x := range trees {
		checkSame(t, x, trees[0], true)
		checkSame(t, x, made(t, x.Rev(), api.Entry{Key: "z", Val: "v", Made: x.Rev(), Mod: x.Rev()}), true)
	}
}
