package tree

import (
	"maps"
	"slices"
	"testing"

	"baton/api"
)

// kept tells what is wrong with how a tree is kept: its keys rise, it knows how many they are, and no side is too heavy.
func kept(n *node[int, int]) string {
	if n == nil {
		return ""
	}
	switch {
	case n.size != n.left.count()+1+n.right.count():
		return "it does not know how many keys it has"
	case n.left.weight() > mostSide*n.right.weight() || n.right.weight() > mostSide*n.left.weight():
		return "a side is too heavy"
	case n.left != nil && n.left.key >= n.key || n.right != nil && n.right.key <= n.key:
		return "its keys do not rise"
	}
	return kept(n.left) + kept(n.right)
}

func deep(n *node[int, int]) int {
	if n == nil {
		return 0
	}
	return 1 + max(deep(n.left), deep(n.right))
}

// check holds a tree against a map of what is to be in it.
func check(t *testing.T, n *node[int, int], m map[int]int) {
	t.Helper()
	if wrong := kept(n); wrong != "" {
		t.Fatal(wrong)
	}
	var l []int
	for key, val := range n.from(-1 << 63) {
		l = append(l, key)
		if want, is := m[key]; !is || val != want {
			t.Fatalf("%d has %d; want %d, %t", key, val, want, is)
		}
	}
	if !slices.Equal(l, slices.Sorted(maps.Keys(m))) || n.count() != len(m) {
		t.Fatalf("%d keys, %d; want %d", len(l), n.count(), len(m))
	}
}

// A tree of many keys is not deep, in whatever row they come and go, so that nothing that is asked takes long.
func TestDeep(t *testing.T) {
	const n = 5000
	rows := map[string]func(i int) int{
		"rising":  func(i int) int { return i },
		"falling": func(i int) int { return n - i },
		"other":   func(i int) int { return i * 1237 % n },
		"inward":  func(i int) int { return (1 - i%2*2) * (n - i) },
		"outward": func(i int) int { return (1 - i%2*2) * i },
	}
	for in, put := range rows {
		for out, drop := range rows {
			var x *node[int, int]
			m := map[int]int{}
			for i := range n {
				x = x.with(put(i), i)
				m[put(i)] = i
				if i%499 == 0 {
					check(t, x, m)
				}
			}
			if deep(x) > 30 {
				t.Errorf("%s: %d keys, %d deep", in, x.count(), deep(x))
			}
			for i := range n {
				x = x.without(drop(i))
				delete(m, drop(i))
				if i%499 == 0 || i == n-1 {
					check(t, x, m)
				}
			}
			if deep(x) > 30 {
				t.Errorf("%s, %s: %d keys, %d deep", in, out, x.count(), deep(x))
			}
		}
	}
}

// Each tree of a few keys stays as it should be, whichever one comes or goes; and the one that it was stays, too.
func TestFew(t *testing.T) {
	type state struct {
		n *node[int, int]
		m map[int]int
	}
	l := []state{{nil, map[int]int{}}}
	next := uint64(88172645463325252)
	for step := range 4000 {
		next ^= next << 13
		next ^= next >> 7
		next ^= next << 17
		from := l[next>>33%uint64(len(l))]
		key := int(next >> 20 % 40)
		to := state{from.n.with(key, step), maps.Clone(from.m)}
		if to.m[key] = step; next>>8%3 == 0 {
			to.n = from.n.without(key)
			delete(to.m, key)
		}
		check(t, to.n, to.m)
		if l = append(l, to); len(l) > 200 {
			l = l[1:]
		}
	}
	for _, x := range l {
		check(t, x.n, x.m)
	}
}

// A tree is gone over from any key on, one that is there or not, and is left at any place.
func TestFrom(t *testing.T) {
	for n := range 40 {
		var x *node[int, int]
		for i := range n {
			x = x.with(i*7%n*2, i*7%n)
		}
		all := slices.Collect(maps.Keys(maps.Collect(x.from(0))))
		slices.Sort(all)
		for from := -1; from <= 2*n+1; from++ {
			at, _ := slices.BinarySearch(all, from)
			for stop := range len(all) - at + 2 {
				var got []int
				for key, val := range x.from(from) {
					if len(got) == stop {
						break
					}
					got = append(got, key)
					if val*2 != key {
						t.Fatalf("%d has %d", key, val)
					}
				}
				if want := all[at:min(at+stop, len(all))]; !slices.Equal(got, want) {
					t.Fatalf("of %d keys from %d on: %d; want %d", n, from, got, want)
				}
			}
		}
	}
}

// A key is found, or not; and one that is not there can't be taken out.
func TestFind(t *testing.T) {
	var x *node[int, int]
	for i := range 50 {
		x = x.with(i*2, i)
	}
	for key := -1; key <= 101; key++ {
		is := key >= 0 && key < 100 && key%2 == 0
		want := 0
		if is {
			want = key / 2
		}
		if val, ok := x.find(key); val != want || ok != is {
			t.Errorf("find(%d) = %d, %t", key, val, ok)
		}
		less := x.without(key)
		if _, ok := less.find(key); ok || is != (less.count() == x.count()-1) {
			t.Errorf("without %d: %t, %d", key, ok, less.count())
		}
	}
}

// What is made of a tree shares with it all that is not on the way to the place; what it was is not changed.
func TestShares(t *testing.T) {
	var x *node[int, int]
	for i := range 1000 {
		x = x.with(i, i)
	}
	old := map[*node[int, int]]node[int, int]{}
	var gather func(n *node[int, int])
	gather = func(n *node[int, int]) {
		if n != nil {
			old[n] = *n
			gather(n.left)
			gather(n.right)
		}
	}
	gather(x)
	fresh := func(y *node[int, int]) int {
		count := 0
		var look func(n *node[int, int])
		look = func(n *node[int, int]) {
			if _, is := old[n]; n == nil || is {
				return
			}
			count++
			look(n.left)
			look(n.right)
		}
		look(y)
		return count
	}
	for i := range 1001 {
		if n, m := fresh(x.with(i, -1)), fresh(x.without(i)); n > 30 || m > 30 {
			t.Errorf("%d and %d nodes are new, of 1000", n, m)
		}
	}
	for n, was := range old {
		if *n != was {
			t.Error("a node was changed")
		}
	}
}

// What is cut is not kept.
func TestCutKeeps(t *testing.T) {
	x := New()
	for i := range 100 {
		x.Do(api.Txn{Ops: []api.Op{{Key: "a"}, {Del: i%2 == 0, Key: "b"}}})
		if x.Do(api.Txn{Ops: []api.Op{{Del: true, Key: "c"}}}); x.events.count() != i+1 {
			t.Fatalf("events of %d revisions are kept, of %d", x.events.count(), i+1)
		}
	}
	c := x.Copy()
	for _, up := range []int64{0, 1, 2, 50, 51, 49, 51, 199, 200} {
		x.Cut(up)
		if want := 100 - int(x.low+1)/2; x.events.count() != want {
			t.Errorf("cut up to %d: %d; want %d", x.low, x.events.count(), want)
		}
	}
	if x.events != nil || c.events.count() != 100 || x.entries != c.entries {
		t.Error("what is kept of events, or shared of entries:", x.events.count(), c.events.count())
	}
}
