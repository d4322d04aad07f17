package vault_test

import (
	"fmt"
	"slices"
	"strings"
	"testing"

	"baton/api"
	"baton/disk"
	"baton/vault"
)

// text is one of so many bytes.
func text(n int) string { return strings.Repeat("payload ", n/8+1)[:n] }

// twinOn opens both, which must do.
func twinOn(t *testing.T, d *disk.Disk, most int) *twin {
	t.Helper()
	w, _, e := twinOf(t, d, most)
	if e != api.OK {
		t.Fatalf("Open: %d", e)
	}
	return w
}

// at is a head of a generation, with a log on tape 2, and, of a base, a snapshot on tape 3.
func at(gen, base int64) api.Head {
	h := api.Head{Gen: gen, Log: []int{2}}
	if base > 0 {
		h.Base, h.Snap = base, 3
	}
	return h
}

// on is a disk with that head, and these records.
func on(t *testing.T, h api.Head, l ...string) *disk.Disk {
	t.Helper()
	tapes := []string{"", whole(h), records(l...)}
	if h.Snap > 0 {
		tapes = append(tapes, snapshot("snap"))
	}
	return firm(t, tapes...)
}

// P10.2: records of any length are there as they were, loose till the Sync.
func TestAdd(t *testing.T) {
	for _, l := range [][]string{{""}, {"", "", ""}, {"a", "", "bc"}, {text(maxFrame)}, {"a", text(maxFrame), "b"}, {text(maxFrame - 1), ""}, {"\x00\xFF"}} {
		d := firm(t)
		w := twinOn(t, d, maxTape)
		for i, s := range l {
			checkE(t, "Add", w.add(t, s), api.OK)
			checkHead(t, w.v, first(), i+1)
			checkDisk(t, d, made(t, room, api.Tape{Firm: whole(first())}, api.Tape{}, api.Tape{Loose: records(l[:i+1]...)}))
		}
		checkE(t, "Sync", w.sync(t), api.OK)
		checkDisk(t, d, firm(t, whole(first()), "", records(l...)))
		checkHead(t, w.v, first(), len(l))
		open(t, d, maxTape, logged(l...))
	}
}

// P10.2: a Sync is of the last one of the log's tapes alone, and is done whether something is loose or not.
func TestSync(t *testing.T) {
	d := firm(t, keptTapes()...)
	w := twinOn(t, d, 100)
	var want []api.Tape
	for _, s := range keptTapes() {
		want = append(want, api.Tape{Firm: s})
	}
	for i := range want {
		changed(t, d, write(i, "more"))
		want[i].Loose = "more"
	}
	w.p.d = d.Copy()
	checkE(t, "Sync", w.sync(t), api.OK)
	want[6] = api.Tape{Firm: records("e") + "more"}
	checkDisk(t, d, made(t, room, want...))
	d = firm(t)
	v := open(t, d, 100, vault.Found{})
	fail(t, d, 2)
	for _, e := range []api.Errno{api.OK, api.OK, api.ErrDown, api.ErrDown} {
		checkE(t, "Sync", v.Sync(), e)
	}
}

// P10.6: a tape takes records up to most bytes; one byte beyond the log goes on on another one.
func TestAddUpToMost(t *testing.T) {
	for _, most := range []int{20, 45, 46, 100, 1000} {
		d := firm(t)
		w := twinOn(t, d, most)
		checkE(t, "Add", w.add(t, "a"), api.OK)
		left := most - 10 - 9
		checkE(t, "Add", w.add(t, text(left)), api.OK)
		checkHead(t, w.v, first(), 2)
		c := firm(t)
		w = twinOn(t, c, most)
		checkE(t, "Add", w.add(t, "a"), api.OK)
		checkE(t, "Add", w.add(t, text(left+1)), api.OK)
		next := api.Head{Gen: 2, Log: []int{2, 3}}
		checkHead(t, w.v, next, 2)
		checkDisk(t, c, made(t, room, api.Tape{Firm: whole(first())}, api.Tape{Firm: whole(next)}, api.Tape{Firm: records("a")}, api.Tape{Loose: records(text(left + 1))}))
		open(t, c, most, logged("a", text(left+1)))
	}
}

// P10.6: one record alone may have more than most; what is behind it goes on another tape.
func TestAddAlone(t *testing.T) {
	for _, s := range []string{"", "a", text(91), text(92), text(1000), text(maxFrame)} {
		for _, most := range []int{1, 8, 9, 100} {
			d := firm(t)
			w := twinOn(t, d, most)
			log, gen := []int{2}, int64(1)
			for i := range 4 {
				if i > 0 && 9+len(s) > most || i > 0 && (i%(most/(9+len(s)))) == 0 {
					gen++
					log = append(log, 2+len(log))
				}
				checkE(t, "Add", w.add(t, s), api.OK)
				checkHead(t, w.v, api.Head{Gen: gen, Log: log}, i+1)
			}
			open(t, d, most, logged(s, s, s, s))
		}
	}
	d := firm(t) // on a tape with bytes a long one goes not, though that has fewer than most
	w := twinOn(t, d, 100)
	checkE(t, "Add", w.add(t, "a"), api.OK)
	checkE(t, "Add", w.add(t, text(1000)), api.OK)
	checkE(t, "Add", w.add(t, "b"), api.OK)
	checkHead(t, w.v, api.Head{Gen: 3, Log: []int{2, 3, 4}}, 3)
}

// P10.2: the log goes on on the least tape that is free, which stands behind the others in the head.
func TestAddOnLeast(t *testing.T) {
	d := firm(t, keptTapes()...)
	v := open(t, d, 1, laid("snap", "a", "", "b", "c", "d", "e"))
	log := []int{4, 3, 6}
	for i, next := range []int{2, 7, 8, 9} {
		checkE(t, "Add", v.Add("x"), api.OK)
		log = append(log, next)
		checkHead(t, v, api.Head{Gen: 8 + int64(i), Base: 9, Snap: 5, Log: log}, 7+i)
	}
	open(t, d, 1, laid("snap", "a", "", "b", "c", "d", "e", "x", "x", "x", "x"))
}

// S4: where the log goes on: the last tape is synced, another one wiped, the head written, the record written, in this row, and no more.
func TestAddRow(t *testing.T) {
	next := api.Head{Gen: 2, Log: []int{2, 3}}
	one, two := records("one"), records("two")
	tapes := func(n int) []api.Tape {
		l := []api.Tape{{Firm: whole(first())}, {Firm: "old"}, {Loose: one}, {Firm: "junk"}}
		for i, f := range []func(){
			func() { l[2] = api.Tape{Firm: one} },
			func() { l[3] = api.Tape{} },
			func() { l[1] = api.Tape{} },
			func() { l[1] = api.Tape{Loose: whole(next)} },
			func() { l[1] = api.Tape{Firm: whole(next)} },
			func() { l[3] = api.Tape{Loose: two} },
		} {
			if i < n || i == n && (i == 3 || i == 5) { // a write at which it fails is loose
				f()
			}
		}
		return l
	}
	for n := range 8 {
		d := firm(t, whole(first()), "old")
		v := open(t, d, 12, vault.Found{})
		checkE(t, "Add", v.Add("one"), api.OK)
		changed(t, d, write(3, "junk"), sync(3))
		fail(t, d, n)
		if n < 6 {
			checkE(t, "Add", v.Add("two"), api.ErrDown)
			checkDisk(t, d, ended(t, made(t, room, tapes(n)...)))
			continue
		}
		checkE(t, "Add", v.Add("two"), api.OK)
		checkHead(t, v, next, 2)
		if n == 7 { // it was not counted: nothing more was done
			checkE(t, "the next thing", d.Sync(30), api.OK)
		}
		checkE(t, "the next thing", d.Sync(30), api.ErrDown)
		checkDisk(t, d, ended(t, made(t, room, tapes(6)...)))
	}
}

// S4: what goes on the log's last tape is written, and nothing else is done.
func TestAddOnLast(t *testing.T) {
	d := firm(t)
	v := open(t, d, 100, vault.Found{})
	fail(t, d, 2)
	checkE(t, "Add", v.Add("a"), api.OK)
	checkE(t, "Add", v.Add("b"), api.OK)
	checkE(t, "Add", v.Add("c"), api.ErrDown)
	checkHead(t, v, first(), 2)
	checkDisk(t, d, ended(t, made(t, room, api.Tape{Firm: whole(first())}, api.Tape{}, api.Tape{Loose: records("a", "b", "c")})))
}

// checkRefused: Add answers that, and the disk is as it was, also one that is to fail.
func checkRefused(t *testing.T, v *vault.Vault, d *disk.Disk, record string, want api.Errno) {
	t.Helper()
	was, h, since := d.Copy(), v.Head(), v.Since()
	checkE(t, fmt.Sprintf("Add(%.20q (%d bytes))", record, len(record)), v.Add(record), want)
	checkDisk(t, d, was)
	checkHead(t, v, h, since)
}

// The table of errors, and P10.5: a record that is too large.
func TestAddTooLarge(t *testing.T) {
	for _, n := range []int{maxFrame + 1, maxFrame + 2, maxTape, 2 * maxTape} {
		d := firm(t)
		v := open(t, d, maxTape, vault.Found{})
		checkRefused(t, v, d, text(n), api.ErrTooLarge)
		checkE(t, "Add", v.Add("a"), api.OK)
		fail(t, d, 0)
		checkRefused(t, v, d, text(n), api.ErrTooLarge)
		checkRefused(t, v, ended(t, d), text(n), api.ErrTooLarge) // ahead of ErrDown
		checkRefused(t, v, d, text(maxFrame), api.ErrDown)
	}
	d := sized(t, 14)
	checkRefused(t, open(t, d, 1, vault.Found{}), d, text(maxFrame+1), api.ErrTooLarge) // ahead of ErrFull
}

// The table of errors, and P10.5: there are as many records as there may be.
func TestAddCount(t *testing.T) {
	for _, c := range []struct {
		base int64
		l    []string
		want api.Errno
	}{
		{maxRev - 2, nil, api.OK},
		{maxRev - 2, []string{"a"}, api.OK},
		{maxRev - 1, nil, api.OK},
		{maxRev - 2, []string{"a", "b"}, api.ErrTooLarge},
		{maxRev - 1, []string{"a"}, api.ErrTooLarge},
		{maxRev, nil, api.ErrTooLarge},
		{maxRev, []string{"a", "b"}, api.ErrTooLarge},
	} {
		for _, most := range []int{1, 100} {
			d := on(t, at(3, c.base), c.l...)
			v := open(t, d, most, laid("snap", c.l...))
			checkHead(t, v, at(3, c.base), len(c.l))
			if c.want == api.OK {
				checkE(t, "Add", v.Add("x"), api.OK)
				continue
			}
			checkRefused(t, v, d, "x", c.want)
			checkRefused(t, v, ended(t, d), "x", c.want) // ahead of ErrDown
		}
	}
	d := on(t, at(3, maxRev-1))
	v := open(t, d, 100, laid("snap"))
	checkE(t, "Add", v.Add("x"), api.OK)
	checkRefused(t, v, d, "x", api.ErrTooLarge)
}

// The table of errors, and P10.5: another tape is needed, and there is no next generation.
func TestAddGen(t *testing.T) {
	d := on(t, at(maxRev, 0), "a")
	v := open(t, d, 30, logged("a"))
	checkE(t, "Add", v.Add("b"), api.OK) // no other tape is needed
	checkRefused(t, v, d, "12", api.ErrTooLarge)
	checkE(t, "Add", v.Add("1"), api.OK)
	checkRefused(t, v, d, "", api.ErrTooLarge)
	checkE(t, "Sync", v.Sync(), api.OK)
	full := sized(t, d.Used(), "", whole(at(maxRev, 0)), records("a", "b", "1"))
	checkRefused(t, open(t, full, 30, logged("a", "b", "1")), full, "", api.ErrTooLarge) // ahead of ErrFull
	checkRefused(t, v, ended(t, d), "", api.ErrDown)                                     // ahead of ErrTooLarge
	d = on(t, at(maxRev-1, 0), "a")
	v = open(t, d, 19, logged("a"))
	checkE(t, "Add", v.Add("b"), api.OK)
	checkHead(t, v, api.Head{Gen: maxRev, Log: []int{2, 3}}, 2)
	checkRefused(t, v, d, "c", api.ErrTooLarge)
	tapes := make([]string, maxTapes) // ahead of ErrFull, where no tape is free
	all := api.Head{Gen: maxRev, Log: []int{31}}
	for i := 2; i < 31; i++ {
		all.Log = append(all.Log, i)
	}
	tapes[0], tapes[30] = whole(all), records("a")
	d = firm(t, tapes...)
	checkRefused(t, open(t, d, 19, logged("a")), d, "b", api.ErrTooLarge)
}

// P10.5, There is room: to the last byte on the log's last tape, and for one byte less.
func TestAddRoom(t *testing.T) {
	for _, n := range []int{0, 1, 50, maxFrame} {
		tapes := []string{whole(first()) + "more", "other", records("one")}
		used := 14 + 4 + 5 + 12
		d := sized(t, used+9+n, tapes...)
		v := open(t, d, maxTape, logged("one"))
		checkE(t, "Add", v.Add(text(n)), api.OK)
		checkRefused(t, v, d, "", api.ErrFull)
		for _, less := range []int{1, 2, 9, 9 + n} {
			d = sized(t, max(used, used+9+n-less), tapes...)
			v = open(t, d, maxTape, logged("one"))
			checkRefused(t, v, d, text(n), api.ErrFull)
			fail(t, d, 0)
			checkRefused(t, v, d, text(n), api.ErrFull)
			checkRefused(t, v, ended(t, d), text(n), api.ErrDown)
		}
	}
}

// P10.5, There is room: to the last byte on another tape, and for one byte less: what is wiped, on that tape, and where the head goes, gives its room.
func TestAddRoomOnAnother(t *testing.T) {
	next := api.Head{Gen: 6, Base: 300, Snap: 4, Log: []int{2, 3}}
	head := api.Head{Gen: 5, Base: 300, Snap: 4, Log: []int{2}}
	for _, spare := range []string{"", "s", whole(at(4, 0)), whole(at(4, 0)) + strings.Repeat("s", 50)} {
		for _, junk := range []string{"", "j", strings.Repeat("j", 50)} {
			for _, n := range []int{0, 1, 60} {
				for _, turned := range []bool{false, true} {
					tapes := []string{whole(head) + "more", spare, records("one"), "", snapshot("snap")}
					if turned {
						tapes[0], tapes[1] = tapes[1], tapes[0]
					}
					full := len(whole(head)) + 4 + 12 + 13 + len(whole(next)) + 9 + n
					for _, less := range []int{0, 1, 2} {
						capacity := full - less
						used := len(whole(head)) + 4 + len(spare) + 12 + 13 + len(junk)
						if used > capacity {
							continue
						}
						d := sized(t, capacity, tapes...)
						v := open(t, d, 12, laid("snap", "one"))
						changed(t, d, write(3, junk))
						if less > 0 {
							checkRefused(t, v, d, text(n), api.ErrFull)
							continue
						}
						checkE(t, "Add", v.Add(text(n)), api.OK)
						checkHead(t, v, next, 2)
						open(t, d, 12, laid("snap", "one", text(n)))
					}
				}
			}
		}
	}
}

// There is room: where no head counts any more, as somebody changed tapes 0 and 1, the next one goes onto tape 0, which gives its room.
func TestAddRoomWithoutHead(t *testing.T) {
	next := api.Head{Gen: 2, Log: []int{2, 3}}
	full := len("more junk") + 12 + len(whole(next)) + 9
	for _, less := range []int{0, 1} {
		d := sized(t, full-less, whole(first()), "", records("one"))
		w := twinOn(t, d, 1)
		w.both(func(d *disk.Disk) { changed(t, d, wipe(0), write(0, "junk"), write(1, "more junk")) })
		checkE(t, "Add", w.add(t, ""), []api.Errno{api.OK, api.ErrFull}[less])
	}
}

// P10.5: on the last tape that is free, and when there is none; with a snapshot, and without one.
func TestAddTapes(t *testing.T) {
	for _, snap := range []bool{false, true} {
		d := firm(t)
		w := twinOn(t, d, 1)
		free := 29
		if snap {
			checkE(t, "Lay", w.lay(t, "snap"), api.OK)
			free = 28
		}
		var l []string
		for i := range free + 1 {
			l = append(l, fmt.Sprint(i))
			checkE(t, "Add", w.add(t, l[i]), api.OK)
		}
		checkRefused(t, w.v, d, "", api.ErrFull)
		checkRefused(t, w.v, d, text(maxFrame+1), api.ErrTooLarge)
		want := logged(l...)
		if snap {
			want = laid("snap", l...)
		}
		v := open(t, d, 1000, want)
		checkE(t, "Add", v.Add("last"), api.OK) // on the last one of the log's
		want.Records = append(slices.Clone(l), "last")
		open(t, d, 1, want)
		checkRefused(t, v, ended(t, d), "", api.ErrDown)
	}
}

// The table of errors: a vault behind one that erred goes on, where the disk is up.
func TestAddBehindRefused(t *testing.T) {
	d := sized(t, 14+9+9)
	v := open(t, d, 100, vault.Found{})
	checkRefused(t, v, d, text(10), api.ErrFull)
	checkE(t, "Add", v.Add("a"), api.OK)
	checkRefused(t, v, d, text(maxFrame+1), api.ErrTooLarge)
	checkRefused(t, v, d, "a", api.ErrFull)
	checkE(t, "Sync", v.Sync(), api.OK)
	open(t, d, 100, logged("a"))
}
