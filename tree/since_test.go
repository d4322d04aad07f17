package tree_test

import (
	"math"
	"slices"
	"strings"
	"testing"

	"baton/api"
	"baton/tree"
)

// grown is a tree of five revisions, the third of which had no event, and the fourth more than one; and what happened.
func grown(t *testing.T) (*tree.Tree, []api.Event) {
	t.Helper()
	x := built(t, put("a/b", "1"), put("a", "2"), put("q", "-"), put("b", "3", "a/b", "-", "aa", "4", "a", ""), put("a/b", "5"))
	return x, []api.Event{
		{Rev: 1, Key: "a/b", Val: "1"}, {Rev: 2, Key: "a", Val: "2"},
		{Rev: 4, Key: "b", Val: "3"}, {Rev: 4, Del: true, Key: "a/b"}, {Rev: 4, Key: "aa", Val: "4"}, {Rev: 4, Key: "a"},
		{Rev: 5, Key: "a/b", Val: "5"},
	}
}

// P12.3: Since from each revision on, of nothing and of prefixes that keys begin by, and of such as none does.
func TestSince(t *testing.T) {
	x, all := grown(t)
	behind := map[int64]int{1: 0, 2: 1, 3: 2, 4: 2, 5: 6, 6: 7}
	for from, at := range behind {
		checkSince(t, x, "", from, all[at:], api.OK)
		for _, prefix := range []string{"a", "a/", "a/b", "a/b/", "aa", "b", "q", "/", strings.Repeat("a", maxKey)} {
			var want []api.Event
			for _, y := range all[at:] {
				if strings.HasPrefix(y.Key, prefix) {
					want = append(want, y)
				}
			}
			checkSince(t, x, prefix, from, want, api.OK)
		}
	}
	checkSince(t, x, "a/", 2, []api.Event{all[3], all[6]}, api.OK)
	checkSince(t, x, "aa", 5, nil, api.OK)
}

// P12.3: from where Since may not be asked, and what comes first of several errors.
func TestSinceWrong(t *testing.T) {
	check := func(x *tree.Tree, rev, low int64) {
		t.Helper()
		for _, from := range []int64{math.MinInt64, -maxRev, -1, 0, rev + 2, rev + 3, maxRev + 2, math.MaxInt64} {
			checkSince(t, x, "", from, nil, api.ErrArg)
			checkSince(t, x, "a", from, nil, api.ErrArg)
		}
		for from := max(1, low-3); from <= low; from++ {
			checkSince(t, x, "", from, nil, api.ErrGone)
			checkSince(t, x, "a", from, nil, api.ErrGone)
		}
		checkSince(t, x, "", rev+1, nil, api.OK)
		for _, prefix := range noKeys[1:] {
			for _, from := range []int64{math.MinInt64, -1, 0, low, low + 1, rev, rev + 1, rev + 2, math.MaxInt64} {
				checkSince(t, x, prefix, from, nil, api.ErrForm)
			}
		}
	}
	x, _ := grown(t)
	for low := range int64(6) {
		checkCut(t, x, low, api.OK)
		check(x, 5, low)
	}
	check(tree.New(), 0, 0)
	check(made(t, 1), 1, 1)
	check(made(t, maxRev), maxRev, maxRev)
	check(made(t, 7, api.Entry{Key: "a", Made: 1, Mod: 2}), 7, 7)
}

// P12.3: Cut up to each revision, from each Low; what may not be, and what is below Low, changes nothing.
func TestCut(t *testing.T) {
	for low := range int64(6) {
		for rev := int64(-3); rev < 9; rev++ {
			x, all := grown(t)
			checkCut(t, x, low, api.OK)
			before := x.Copy()
			switch {
			case rev < 0 || rev > 5:
				checkCut(t, x, rev, api.ErrArg)
				checkSame(t, x, before, true)
			default:
				checkCut(t, x, rev, api.OK)
				checkSame(t, x, before, rev <= low)
			}
			firm := low
			if rev <= 5 {
				firm = max(low, rev)
			}
			checkNumbers(t, x, before.Len(), 5, firm)
			for from := firm + 1; from <= 6; from++ {
				var want []api.Event
				for _, y := range all {
					if y.Rev >= from {
						want = append(want, y)
					}
				}
				checkSince(t, x, "", from, want, api.OK)
			}
			checkList(t, x, "", before.List(""))
		}
	}
}

// P12.3: numbers that are far from what may be; of a new tree, and of one of entries.
func TestCutWrong(t *testing.T) {
	for _, x := range []*tree.Tree{tree.New(), made(t, 7, api.Entry{Key: "a", Made: 1, Mod: 2}), made(t, maxRev)} {
		before := x.Copy()
		for _, rev := range []int64{math.MinInt64, -maxRev, -1, x.Rev() + 1, x.Rev() + 2, maxRev + 1, math.MaxInt64} {
			checkCut(t, x, rev, api.ErrArg)
		}
		checkCut(t, x, 0, api.OK)
		checkCut(t, x, x.Rev(), api.OK)
		checkSame(t, x, before, true)
	}
}

// P12.3: a tree that was cut goes on, and is cut again.
func TestCutOn(t *testing.T) {
	r := newRow()
	for keep := range 8 {
		x, p := tree.New(), newPlain()
		for range 60 {
			checkDo(t, x, p, r.txn(p, some))
			up := p.rev - int64(keep)
			if up >= 0 {
				checkCut(t, x, up, api.OK)
				p.cut(up)
			}
			if r.odds(7) {
				low := int64(r.below(int(p.rev + 1)))
				checkCut(t, x, low, api.OK)
				p.cut(low)
			}
			checkTree(t, x, p, some[:3])
		}
		if x.Low() == 0 || x.Len() == 0 {
			t.Error("nothing was cut, or put")
		}
		checkTree(t, x, p, some)
	}
}

// R1: what is told shares no memory with what is kept, nor with what is told again; nor does what is handed in.
func TestShared(t *testing.T) {
	txn := given([]api.Cond{{Key: "c"}}, "a", "x", "b", "y", "c", "-")
	x := tree.New()
	told, _, _ := x.Do(txn)
	keep := x.Copy()
	spoilEvents := func(l []api.Event) {
		clear(l)
		clear(l[:cap(l)])
	}
	spoilEvents(told)
	clear(txn.Ops)
	clear(txn.Conds)
	want := []api.Event{{Rev: 1, Key: "a", Val: "x"}, {Rev: 1, Key: "b", Val: "y"}}
	for range 2 {
		checkSince(t, x, "", 1, want, api.OK)
		checkSame(t, x, keep, true)
		l, _ := x.Since("", 1)
		other, _ := x.Since("", 1)
		spoilEvents(l)
		if !slices.Equal(other, want) {
			t.Error("two answers of Since share memory:", other)
		}
		entries, others := x.List(""), x.List("")
		clear(entries)
		clear(entries[:cap(entries)])
		checkList(t, x, "", others)
		checkGet(t, x, "a", api.Entry{Key: "a", Val: "x", Made: 1, Mod: 1}, true)
	}
	given := []api.Entry{{Key: "a", Val: "x", Made: 1, Mod: 1}, {Key: "b", Val: "y", Made: 1, Mod: 1}}
	of := made(t, 1, given...)
	clear(given)
	checkList(t, of, "", x.List(""))
}

// R1: nothing and no list are the same.
func TestNothing(t *testing.T) {
	x, e := tree.Of([]api.Entry{}, 0)
	if e != api.OK || !x.Holds([]api.Cond{}) || !x.Holds(nil) {
		t.Error("Of, or Holds, of nothing")
	}
	y, _ := tree.Of(nil, 0)
	checkSame(t, x, y, true)
	for _, txn := range []api.Txn{{}, {Conds: []api.Cond{}}, {Ops: []api.Op{}}, {Conds: []api.Cond{}, Ops: []api.Op{}}} {
		if events, done, e := x.Do(txn); len(events) != 0 || !done || e != api.OK || x.Rev() != 0 {
			t.Error(events, done, e, x.Rev())
		}
	}
	checkSame(t, x, y, true)
}
