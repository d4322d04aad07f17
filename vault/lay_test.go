package vault_test

import (
	"fmt"
	"strings"
	"testing"

	"baton/api"
	"baton/disk"
	"baton/vault"
)

// P10.2: snapshots of any length, behind each other, with records between.
func TestLay(t *testing.T) {
	d := firm(t)
	w := twinOn(t, d, 25)
	count := int64(0)
	for i, s := range []string{"", "a", text(1000), text(maxFrame), "", text(maxFrame - 1)} {
		var l []string
		for j := range i {
			l = append(l, fmt.Sprint(i, j))
			checkE(t, "Add", w.add(t, l[j]), api.OK)
			count++
		}
		gen := w.v.Head().Gen
		checkE(t, "Lay", w.lay(t, s), api.OK)
		h := w.v.Head()
		checkHead(t, w.v, api.Head{Gen: gen + 1, Base: count, Snap: h.Snap, Log: h.Log}, 0)
		open(t, d, 25, laid(s))
		checkE(t, "Add", w.add(t, "behind"), api.OK)
		checkE(t, "Sync", w.sync(t), api.OK)
		count++
		open(t, d, 25, laid(s, "behind"))
	}
}

// P10.2: which tapes a snapshot takes, what the head says then, and that the head's old tapes are wiped.
func TestLayTapes(t *testing.T) {
	for _, c := range []struct {
		snap       int
		log        []int
		want, log2 int
	}{
		{0, []int{2}, 3, 4},
		{0, []int{4}, 2, 3},
		{0, []int{3}, 2, 4},
		{2, []int{3}, 4, 5},
		{3, []int{4}, 2, 5},
		{5, []int{4, 3, 6}, 2, 7},
		{31, []int{2, 4, 6, 3, 5}, 7, 8},
		{30, []int{31}, 2, 3},
	} {
		h := api.Head{Gen: 9, Snap: c.snap, Log: c.log}
		tapes := make([]string, maxTapes)
		tapes[0] = whole(h)
		var l []string
		for i, x := range c.log {
			l = append(l, fmt.Sprint(i))
			tapes[x] = records(l[i])
		}
		found := logged(l...)
		if c.snap > 0 {
			h.Base = 5
			tapes[0], tapes[c.snap] = whole(h), snapshot("old")
			found = laid("old", l...)
		}
		d := firm(t, tapes...)
		v := open(t, d, 100, found)
		checkE(t, "Lay", v.Lay("new"), api.OK)
		next := api.Head{Gen: 10, Base: h.Base + int64(len(l)), Snap: c.want, Log: []int{c.log2}}
		checkHead(t, v, next, 0)
		want := make([]string, maxTapes)
		want[0], want[1], want[c.want] = whole(h), whole(next), snapshot("new")
		checkDisk(t, d, firm(t, want...))
		open(t, d, 100, laid("new"))
	}
}

// steps are what a Lay does on a disk with the tapes of kept, and what was written loose on 6, 2 and 7.
func steps(next api.Head, s string) []thing {
	return []thing{sync(6), wipe(2), write(2, snapshot(s)), sync(2), wipe(7), wipe(0), write(0, whole(next)), sync(0), wipe(3), wipe(4), wipe(5), wipe(6)}
}

// S4: what is done for a snapshot, in its row, and no more.
func TestLayRow(t *testing.T) {
	next := api.Head{Gen: 8, Base: 16, Snap: 2, Log: []int{7}}
	l := steps(next, "new")
	for n := range len(l) + 2 {
		d := firm(t, keptTapes()...)
		v := open(t, d, 100, laid("snap", "a", "", "b", "c", "d", "e"))
		checkE(t, "Add", v.Add("f"), api.OK)
		changed(t, d, write(2, "other"), write(7, "junk"), sync(7))
		fail(t, d, n)
		want := d.Copy()
		e := v.Lay("new")
		for _, x := range l {
			x.to(want)
		}
		checkDisk(t, d, want)
		if n < len(l) {
			checkE(t, "Lay", e, api.ErrDown)
		} else {
			checkE(t, "Lay", e, api.OK)
			checkHead(t, v, next, 0)
		}
		if n >= 8 {
			checkHead(t, v, next, 0) // the head was written
		} else {
			checkHead(t, v, kept(), 7)
		}
	}
	w := twinOn(t, firm(t), 100) // what has no bytes is wiped, too
	fail(t, w.d, 9)
	fail(t, w.p.d, 9)
	checkE(t, "Lay", w.lay(t, "s"), api.OK)
	checkE(t, "the next thing", w.d.Sync(0), api.ErrDown)
}

// checkLayRefused: Lay answers that, and the disk is as it was, also one that is to fail.
func checkLayRefused(t *testing.T, v *vault.Vault, d *disk.Disk, s string, want api.Errno) {
	t.Helper()
	was, h, since := d.Copy(), v.Head(), v.Since()
	checkE(t, fmt.Sprintf("Lay(%.20q (%d bytes))", s, len(s)), v.Lay(s), want)
	checkDisk(t, d, was)
	checkHead(t, v, h, since)
}

// The table of errors, and P10.5: a snapshot that is too large.
func TestLayTooLarge(t *testing.T) {
	for _, n := range []int{maxFrame + 1, maxFrame + 2, maxTape, 2 * maxTape} {
		d := firm(t)
		v := open(t, d, 100, vault.Found{})
		checkE(t, "Add", v.Add("a"), api.OK)
		checkLayRefused(t, v, d, text(n), api.ErrTooLarge)
		fail(t, d, 0)
		checkLayRefused(t, v, d, text(n), api.ErrTooLarge)
		checkLayRefused(t, v, ended(t, d), text(n), api.ErrTooLarge) // ahead of ErrDown
		checkLayRefused(t, v, d, text(maxFrame), api.ErrDown)
	}
	d := sized(t, 14)
	checkLayRefused(t, open(t, d, 1, vault.Found{}), d, text(maxFrame+1), api.ErrTooLarge) // ahead of ErrFull
}

// The table of errors, and P10.5: a head's base is MaxRev at most.
func TestLayCount(t *testing.T) {
	for _, c := range []struct {
		base int64
		l    []string
		want api.Errno
	}{
		{maxRev - 1, nil, api.OK},
		{maxRev - 1, []string{"a"}, api.OK},
		{maxRev, nil, api.OK},
		{maxRev - 1, []string{"a", "b"}, api.ErrTooLarge},
		{maxRev, []string{"a"}, api.ErrTooLarge},
		{maxRev, []string{"a", "b", "c"}, api.ErrTooLarge},
	} {
		d := on(t, at(3, c.base), c.l...)
		v := open(t, d, 100, laid("snap", c.l...))
		if c.want != api.OK {
			checkLayRefused(t, v, d, "s", c.want)
			checkLayRefused(t, v, ended(t, d), "s", c.want) // ahead of ErrDown
			continue
		}
		checkE(t, "Lay", v.Lay("s"), api.OK)
		checkHead(t, v, api.Head{Gen: 4, Base: c.base + int64(len(c.l)), Snap: 4, Log: []int{5}}, 0)
		open(t, d, 100, laid("s"))
	}
}

// The table of errors, and P10.5: there is no next generation.
func TestLayGen(t *testing.T) {
	d := on(t, at(maxRev-1, 0), "a")
	v := open(t, d, 100, logged("a"))
	checkE(t, "Lay", v.Lay("s"), api.OK)
	checkHead(t, v, api.Head{Gen: maxRev, Base: 1, Snap: 3, Log: []int{4}}, 0)
	checkLayRefused(t, v, d, "s", api.ErrTooLarge)
	checkE(t, "Add", v.Add("b"), api.OK)
	checkE(t, "Sync", v.Sync(), api.OK)
	open(t, d, 100, laid("s", "b"))
	checkLayRefused(t, v, ended(t, d), "s", api.ErrDown) // ahead of ErrTooLarge
	full := sized(t, len(whole(at(maxRev, 0)))+12, "", whole(at(maxRev, 0)), records("abc"))
	checkLayRefused(t, open(t, full, 100, logged("abc")), full, "s", api.ErrTooLarge) // ahead of ErrFull
}

// P10.5: with two tapes that are free, with one, and with none.
func TestLayFree(t *testing.T) {
	for _, snap := range []int{0, 31} {
		for free := range 5 {
			h := api.Head{Gen: 4, Snap: snap}
			tapes := make([]string, maxTapes)
			for x := 30 - free; x >= 2; x-- {
				h.Log = append(h.Log, x)
				tapes[x] = records(fmt.Sprint(x))
			}
			want := logged()
			if snap > 0 {
				tapes[snap] = snapshot("old")
				want = laid("old")
			} else {
				h.Log = append(h.Log, 31)
			}
			for _, x := range h.Log {
				_, payloads, _ := scanned(tapes[x])
				want.Records = append(want.Records, payloads...)
			}
			tapes[1] = whole(h)
			d := firm(t, tapes...)
			v := open(t, d, 100, want)
			if free < 2 {
				checkLayRefused(t, v, d, "new", api.ErrFull)
				fail(t, d, 0)
				checkLayRefused(t, v, d, "new", api.ErrFull)
				checkLayRefused(t, v, ended(t, d), "new", api.ErrDown)
				continue
			}
			checkE(t, "Lay", v.Lay("new"), api.OK)
			checkHead(t, v, api.Head{Gen: 5, Base: int64(len(want.Records)), Snap: 31 - free, Log: []int{32 - free}}, 0)
			open(t, d, 100, laid("new"))
		}
	}
}

// P10.5, There is room: at the snapshot's frame, and at the new head, to the last byte, and for one byte less.
func TestLayRoom(t *testing.T) {
	const same = 14 // bytes of the old head, and of the new one
	old := at(5, 0)
	next := api.Head{Gen: 6, Base: 1, Snap: 3, Log: []int{4}}
	if len(whole(old)) != same || len(whole(next)) != same {
		t.Fatal("the heads have other lengths")
	}
	for _, spare := range []int{0, 1, same - 1, same, same + 1, 60} {
		for _, a := range []int{0, 1, 50} {
			for _, b := range []int{0, 1, 50} {
				for _, n := range []int{0, 1, 80, maxFrame} {
					all := same + spare + 12 + a + b
					atSnap := all - a + 9 + n
					atHead := atSnap - b - spare + same
					need := max(all, atSnap, atHead)
					for _, less := range []int{-1, 0, 1, 2} {
						if need-less < all {
							continue
						}
						d := sized(t, need-less, strings.Repeat("s", spare), whole(old), records("one"))
						v := open(t, d, 100, logged("one"))
						changed(t, d, write(3, strings.Repeat("a", a)), write(4, strings.Repeat("b", b)))
						if less > 0 {
							checkLayRefused(t, v, d, text(n), api.ErrFull)
							continue
						}
						checkE(t, "Lay", v.Lay(text(n)), api.OK)
						checkHead(t, v, next, 0)
						open(t, d, 100, laid(text(n)))
					}
				}
			}
		}
	}
}

// What a Lay frees is there for what is added behind it: many more bytes than the disk has go through it.
func TestLayFrees(t *testing.T) {
	for _, most := range []int{1, 25, 100} {
		w := twinOn(t, sized(t, 150), most)
		for round := range 60 {
			for i := range 5 {
				checkE(t, "Add", w.add(t, fmt.Sprint(i)), api.OK)
			}
			checkE(t, "Lay", w.lay(t, "snap"), api.OK)
			checkHead(t, w.v, api.Head{Gen: w.p.h.Gen, Base: int64(5 * (round + 1)), Snap: w.p.h.Snap, Log: w.p.h.Log}, 0)
		}
		open(t, w.d, most, laid("snap"))
	}
}
