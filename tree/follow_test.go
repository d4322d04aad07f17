package tree_test

import (
	"math"
	"slices"
	"strings"
	"testing"

	"baton/api"
	"baton/tree"
)

// P12.4: a transaction with ops that is done raises the revision by one; what it puts has that Mod, and is Made then, if it
// was not there; all else stays. Else nothing changes.
func TestOneMore(t *testing.T) {
	r := newRow()
	var count [3]int
	for range 200 {
		x, p := tree.New(), newPlain()
		for range 30 {
			txn := r.txn(p, some[:12])
			before := x.Copy()
			_, done, e := x.Do(txn)
			if e != api.OK {
				t.Fatal(e)
			}
			p.do(txn)
			switch {
			case len(txn.Ops) == 0:
				count[0]++
			case !done:
				count[1]++
			default:
				count[2]++
			}
			if !done || len(txn.Ops) == 0 {
				checkSame(t, x, before, true)
				continue
			}
			checkNumbers(t, x, x.Len(), before.Rev()+1, before.Low())
			for _, key := range some {
				want, was := before.Get(key)
				is := was
				for _, op := range txn.Ops {
					if op.Key != key {
						continue
					}
					if want, is = (api.Entry{}), !op.Del; is {
						old, _ := before.Get(key)
						want = api.Entry{Key: key, Val: op.Val, Made: old.Made, Mod: x.Rev()}
						if !was {
							want.Made = x.Rev()
						}
					}
				}
				checkGet(t, x, key, want, is)
			}
		}
	}
	if slices.Min(count[:]) < 100 {
		t.Error("too few of a kind:", count)
	}
}

// again does an event with entries, as a watcher would.
func again(entries map[string]api.Entry, x api.Event) {
	if x.Del {
		delete(entries, x.Key)
		return
	}
	made := x.Rev
	if old, is := entries[x.Key]; is {
		made = old.Made
	}
	entries[x.Key] = api.Entry{Key: x.Key, Val: x.Val, Made: made, Mod: x.Rev}
}

// P12.5: what happened since any revision, done again with the entries of then, is what is there; also of a prefix alone.
func TestEventsTellAll(t *testing.T) {
	r := newRow()
	for range 60 {
		x, p := tree.New(), newPlain()
		were := []*tree.Tree{x.Copy()}
		for range 25 {
			if checkDo(t, x, p, r.txn(p, some)); x.Rev() == int64(len(were)) {
				were = append(were, x.Copy())
			}
		}
		for rev, old := range were {
			for _, prefix := range []string{"", "a", "a/", "aa", "b"} {
				events, e := x.Since(prefix, int64(rev+1))
				if e != api.OK {
					t.Fatal(e)
				}
				q := plainOf(old.List(prefix), int64(rev))
				for _, y := range events {
					again(q.entries, y)
				}
				checkList(t, x, prefix, q.list(""))
			}
		}
	}
}

// P12.5: of each revision: its events are as many as the ops that changed something, done as of the revision ahead.
func TestEventsOfEach(t *testing.T) {
	r := newRow()
	x, p := tree.New(), newPlain()
	for range 500 {
		before := x.List("")
		txn := r.txn(p, some)
		if events, done, _ := x.Do(txn); done {
			q := plainOf(before, 0)
			for _, y := range events {
				if again(q.entries, y); y.Rev != x.Rev() {
					t.Errorf("an event of %d at %d", y.Rev, x.Rev())
				}
			}
			checkList(t, x, "", q.list(""))
		}
		p.do(txn)
	}
	checkTree(t, x, p, some)
}

// P12.6: conditions that are the Mods as they are hold; with one of them another number they do not.
func TestConditions(t *testing.T) {
	r := newRow()
	for range 400 {
		x, p := tree.New(), newPlain()
		for range r.below(10) {
			checkDo(t, x, p, api.Txn{Ops: r.ops(some)})
		}
		var l []api.Cond
		for range 1 + r.below(maxConds) {
			key := r.of(some)
			y, _ := x.Get(key)
			l = append(l, api.Cond{Key: key, Mod: y.Mod})
		}
		ops := r.ops(some)
		at := r.below(len(l))
		for _, mod := range []int64{0, 1, l[at].Mod - 1, l[at].Mod + 1, int64(r.below(12)), maxRev} {
			wrong := slices.Clone(l)
			wrong[at].Mod = mod
			if mod < 0 || mod == l[at].Mod {
				continue
			}
			checkRefused(t, x, api.Txn{Conds: wrong, Ops: ops}, api.OK)
			if x.Holds(wrong) {
				t.Errorf("Holds(%s)", shown(wrong))
			}
		}
		if !x.Holds(l) || !checkDo(t, x, p, api.Txn{Conds: l, Ops: ops}) {
			t.Errorf("Holds(%s) = %t", shown(l), x.Holds(l))
		}
	}
}

// P12.7: what a prefix lists is what all entries are whose keys begin by it, each as Get tells; whatever text it is.
func TestPrefixes(t *testing.T) {
	r := newRow()
	check := func(x *tree.Tree, prefix string) {
		t.Helper()
		var want []api.Entry
		for _, y := range x.List("") {
			if strings.HasPrefix(y.Key, prefix) {
				want = append(want, y)
			}
			checkGet(t, x, y.Key, y, true)
		}
		checkList(t, x, prefix, want)
	}
	for range 100 {
		x := tree.New()
		var l []string
		for range r.below(60) {
			key := make([]byte, 1+r.below(5))
			for i := range key {
				key[i] = "-./09AZ_az"[r.below(10)]
			}
			l = append(l, string(key))
			x.Do(put(string(key), r.val()))
		}
		for _, key := range l {
			for n := range len(key) + 1 {
				check(x, key[:n])
				check(x, key[:n]+string([]byte{byte(r.next())}))
			}
			check(x, key+key)
		}
	}
}

// P12.8: behind a Cut nothing is told that was up to it, and all else is, as it was; entries stay.
func TestCutTells(t *testing.T) {
	r := newRow()
	for range 100 {
		x, p := tree.New(), newPlain()
		for range 20 {
			checkDo(t, x, p, r.txn(p, some))
		}
		for range 4 {
			before := x.Copy()
			up := int64(r.below(int(x.Rev() + 1)))
			checkCut(t, x, up, api.OK)
			checkNumbers(t, x, before.Len(), before.Rev(), max(up, before.Low()))
			checkList(t, x, "", before.List(""))
			for from := int64(1); from <= x.Rev()+1; from++ {
				for _, prefix := range []string{"", "a", "c/t/"} {
					want, e := before.Since(prefix, from)
					if from <= up {
						want, e = nil, api.ErrGone
					}
					checkSince(t, x, prefix, from, want, e)
				}
			}
		}
	}
}

// P12.9: what is done with a copy changes nothing of the tree, and the other way about: any of many, at any time.
func TestApart(t *testing.T) {
	r := newRow()
	for range 20 {
		trees, plains := []*tree.Tree{tree.New()}, []*plain{newPlain()}
		for range 300 {
			at := r.below(len(trees))
			x, p := trees[at], plains[at]
			switch r.below(8) {
			case 0:
				trees, plains = append(trees, x.Copy()), append(plains, p.copy())
			case 1:
				up := int64(r.below(int(p.rev + 1)))
				checkCut(t, x, up, api.OK)
				p.cut(up)
			default:
				checkDo(t, x, p, r.txn(p, some))
			}
		}
		if len(trees) < 10 {
			t.Error("too few:", len(trees))
		}
		for i, x := range trees {
			checkTree(t, x, plains[i], some)
		}
	}
}

// P12.9: a copy of each revision stays as it was then.
func TestApartEach(t *testing.T) {
	r := newRow()
	x, p := tree.New(), newPlain()
	var trees []*tree.Tree
	var plains []*plain
	for i := range 150 {
		trees, plains = append(trees, x.Copy()), append(plains, p.copy())
		checkDo(t, x, p, r.txn(p, some))
		if i%10 == 9 {
			checkCut(t, x, p.rev-3, api.OK)
			p.cut(p.rev - 3)
		}
	}
	for i := range trees {
		checkTree(t, trees[i], plains[i], some)
	}
}

// many are keys of three letters, rising.
func many(n int) []string {
	var l []string
	for i := range n {
		l = append(l, string([]byte{'a' + byte(i/400), 'a' + byte(i/20%20), 'a' + byte(i%20)}))
	}
	return l
}

// P12.2, P12.4: trees of many keys, put, put again and deleted in rising, falling and other rows, held against a plain list.
func TestMany(t *testing.T) {
	const n = 2000
	rising := many(n)
	falling := slices.Clone(rising)
	slices.Reverse(falling)
	r := newRow()
	mixed := slices.Clone(rising)
	for i := range mixed {
		j := r.below(i + 1)
		mixed[i], mixed[j] = mixed[j], mixed[i]
	}
	var inward []string
	for i := range n / 2 {
		inward = append(inward, rising[i], falling[i])
	}
	rows := [][]string{rising, falling, mixed, inward}
	for _, in := range rows {
		for _, out := range rows {
			x, p := tree.New(), newPlain()
			check := func(i int) {
				t.Helper()
				if i%397 == 0 || i == n-1 {
					checkNumbers(t, x, len(p.entries), p.rev, 0)
					checkList(t, x, "", p.list(""))
					checkList(t, x, rising[i][:2], p.list(rising[i][:2]))
				}
			}
			for i, key := range in {
				checkDo(t, x, p, put(key, "v"))
				check(i)
			}
			for i, key := range out {
				if i%2 == 0 {
					checkDo(t, x, p, put(out[n-1-i], "w"))
				}
				checkDo(t, x, p, put(key, "-"))
				check(i)
			}
			if want := x.List(""); x.Len() != len(want) {
				t.Error("Len:", x.Len(), len(want))
			}
		}
	}
}

// R1: no call panics, or fails to end, whatever it is handed.
func TestWhatever(t *testing.T) {
	texts := append([]string{strings.Repeat("\xFF", 1<<16), strings.Repeat("a", 1<<16)}, noKeys...)
	numbers := []int64{math.MinInt64, math.MinInt64 + 1, -1, 0, 1, 2, maxRev, maxRev + 1, math.MaxInt64 - 1, math.MaxInt64}
	for _, x := range []*tree.Tree{nil, {}, tree.New(), built(t, put("a", "x", "aa", "y")), made(t, maxRev, api.Entry{Key: "a", Made: 1, Mod: maxRev})} {
		before := x.Copy()
		for _, s := range texts {
			checkGet(t, x, s, api.Entry{}, false)
			for _, n := range numbers {
				x.Since(s, n)
				x.Cut(min(n, 0))
				x.Cut(max(n, maxRev+1))
				x.Holds([]api.Cond{{Key: s, Mod: n}})
				x.Do(api.Txn{Conds: []api.Cond{{Key: s, Mod: n}}})
				x.Do(api.Txn{Ops: []api.Op{{Key: s, Val: s, Del: n < 0}}})
				tree.Of([]api.Entry{{Key: s, Val: s, Made: n, Mod: n}}, n)
				tree.Of([]api.Entry{{Key: "a", Val: s, Made: n, Mod: math.MaxInt64}}, n)
			}
		}
		checkSame(t, x, before, true)
	}
}
