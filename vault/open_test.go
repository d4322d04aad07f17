package vault_test

import (
	"math"
	"slices"
	"strings"
	"testing"

	"baton/api"
	"baton/disk"
	"baton/vault"
)

// first is the head of a disk that was empty.
func first() api.Head { return api.Head{Gen: 1, Log: []int{2}} }

// kept is a head with a snapshot on tape 5, and a log on 4, 3 and 6.
func kept() api.Head { return api.Head{Gen: 7, Base: 9, Snap: 5, Log: []int{4, 3, 6}} }

// keptTapes are the tapes of kept, from tape 0 on.
func keptTapes() []string {
	return []string{whole(api.Head{Gen: 6, Base: 9, Snap: 5, Log: []int{4, 3}}), whole(kept()), "", records("c", "d"), records("a", "", "b"), snapshot("snap"), records("e")}
}

// with are tapes, one of which is another one.
func with(l []string, t int, s string) []string {
	l = slices.Clone(l)
	l[t] = s
	return l
}

// The chapter's examples.
func TestExamples(t *testing.T) {
	d := sized(t, 10000)
	v := open(t, d, 100, vault.Found{})
	checkHead(t, v, first(), 0)
	checkDisk(t, d, sized(t, 10000, whole(first())))
	checkE(t, "Add(a)", v.Add("a"), api.OK)
	checkE(t, "Add(b)", v.Add("b"), api.OK)
	checkDisk(t, d, made(t, 10000, api.Tape{Firm: whole(first())}, api.Tape{}, api.Tape{Loose: records("a", "b")}))
	checkE(t, "Sync", v.Sync(), api.OK)
	checkDisk(t, d, sized(t, 10000, whole(first()), "", records("a", "b")))
	checkHead(t, v, first(), 2)
	checkHead(t, open(t, d, 100, logged("a", "b")), first(), 2)
	checkE(t, "Lay(s)", v.Lay("s"), api.OK)
	second := api.Head{Gen: 2, Base: 2, Snap: 3, Log: []int{4}}
	checkHead(t, v, second, 0)
	checkDisk(t, d, sized(t, 10000, whole(first()), whole(second), "", snapshot("s")))
	checkHead(t, open(t, d, 100, laid("s")), second, 0)
}

// P10.1: a snapshot, and records behind it on tapes whose row is no rising one.
func TestOpen(t *testing.T) {
	d := firm(t, keptTapes()...)
	v := open(t, d, 100, laid("snap", "a", "", "b", "c", "d", "e"))
	checkHead(t, v, kept(), 6)
	checkDisk(t, d, firm(t, keptTapes()...))
	checkHead(t, open(t, firm(t, with(keptTapes(), 5, snapshot(""))...), 100, laid("", "a", "", "b", "c", "d", "e")), kept(), 6)
	none := with(with(with(keptTapes(), 3, ""), 4, ""), 6, "")
	checkHead(t, open(t, firm(t, none...), 100, laid("snap")), kept(), 0)
	checkHead(t, open(t, firm(t, with(keptTapes(), 3, "")...), 100, laid("snap", "a", "", "b", "e")), kept(), 4)
	log := api.Head{Gen: 3, Log: []int{31, 2}}
	tapes := make([]string, maxTapes)
	tapes[0], tapes[2], tapes[31] = whole(log), records("b"), records("a")
	checkHead(t, open(t, firm(t, tapes...), 1, logged("a", "b")), log, 2)
	long := strings.Repeat("x", maxFrame)
	large := with(with(keptTapes(), 5, snapshot(long)), 3, records(long, "", long))
	checkHead(t, open(t, firm(t, large...), 1, laid(long, "a", "", "b", long, "", long, "e")), kept(), 7)
	many := with(keptTapes(), 6, strings.Repeat(records(""), maxTape/9)+"torn")
	checkHead(t, open(t, firm(t, many...), 1, laid("snap", append([]string{"a", "", "b", "c", "d"}, make([]string, maxTape/9)...)...)), kept(), 5+maxTape/9)
}

// The table of errors: ErrNil, then ErrArg, then what the disk answers; nothing is done.
func TestOpenWrong(t *testing.T) {
	for _, most := range []int{math.MinInt, -1, 0, 1, 100, maxTape, maxTape + 1, math.MaxInt} {
		checkWrong(t, nil, most, api.ErrNil)
		for _, tapes := range [][]string{{}, keptTapes(), {"torn", "torn", "torn", "torn"}} {
			d := ended(t, firm(t, tapes...))
			if most < 1 || most > maxTape {
				checkWrong(t, d, most, api.ErrArg)
				up := firm(t, tapes...)
				checkWrong(t, up, most, api.ErrArg)
				checkDisk(t, up, firm(t, tapes...))
			} else {
				checkWrong(t, d, most, api.ErrDown)
			}
			checkDisk(t, d, ended(t, firm(t, tapes...)))
		}
	}
	loose := []api.Tape{{Loose: whole(first())}, {Loose: "loose"}, {Loose: records("a")}}
	d := ended(t, made(t, room, append(loose, api.Tape{Firm: "other"})...))
	checkWrong(t, d, 100, api.ErrDown)
	for _, most := range []int{1, maxTape} {
		open(t, firm(t), most, vault.Found{})
		open(t, firm(t, keptTapes()...), most, laid("snap", "a", "", "b", "c", "d", "e"))
	}
}

// S4: a disk without a head that counts, with and without room for the first one.
func TestOpenEmpty(t *testing.T) {
	for capacity := range 14 {
		d := sized(t, capacity)
		checkWrong(t, d, 100, api.ErrFull)
		checkDisk(t, d, sized(t, capacity))
	}
	for _, capacity := range []int{14, 15, 100} {
		d := sized(t, capacity)
		checkHead(t, open(t, d, 100, vault.Found{}), first(), 0)
		checkDisk(t, d, sized(t, capacity, whole(first())))
	}
	for _, s := range []string{"torn", records("a"), snapshot("s"), framed(3, "no head"), framed(3, "\x01\x00\x00\x01\x01"), whole(first())[:13], "\x00" + whole(first())} {
		d := firm(t, s, "torn", records("lost"), "rest", records("lost"))
		checkHead(t, open(t, d, 100, vault.Found{}), first(), 0)
		checkDisk(t, d, firm(t, whole(first()), "torn"))
	}
	d := sized(t, 14+5+3, whole(first())[:13], "torn!", "", "own")
	checkHead(t, open(t, d, 100, vault.Found{}), first(), 0)
	checkDisk(t, d, sized(t, 22, whole(first()), "torn!"))
	d = sized(t, 14+5+3-1, whole(first())[:13], "torn!", "", "own") // tape 3 is wiped behind the head, so there is no room for that
	checkWrong(t, d, 100, api.ErrFull)
}

// S4: tapes 0 and 1 that have loose bytes are synced, whether they have heads or not; then what they have is there behind any failure.
func TestOpenLooseHeads(t *testing.T) {
	old, now := keptTapes()[0], whole(kept())
	rest := keptTapes()[2:]
	for _, both := range [][2]string{{old, now}, {now, old}, {"", now}, {now, ""}, {now, "torn"}, {"torn", now}, {now + "more", old + "more"}} {
		for a := range len(both[0]) + 1 {
			for b := range len(both[1]) + 1 {
				l := []api.Tape{{Firm: both[0][:a], Loose: both[0][a:]}, {Firm: both[1][:b], Loose: both[1][b:]}}
				for _, s := range rest {
					l = append(l, api.Tape{Firm: s})
				}
				d := made(t, room, l...)
				count := 0
				for _, x := range l {
					count += min(1, len(x.Loose))
				}
				fail(t, d, count)
				checkHead(t, open(t, d, 100, laid("snap", "a", "", "b", "c", "d", "e")), kept(), 6)
				checkE(t, "the next thing", d.Sync(0), api.ErrDown)
				back(t, d)
				checkDisk(t, d, firm(t, append([]string{both[0], both[1]}, rest...)...))
			}
		}
	}
}

// S4: those of the head's tapes that have loose bytes are synced, and no other thing is done.
func TestOpenLooseTapes(t *testing.T) {
	for loose := range 16 {
		var l []api.Tape
		for _, s := range keptTapes() {
			l = append(l, api.Tape{Firm: s})
		}
		count := 0
		for i := range 4 {
			if loose>>i&1 == 1 {
				x := &l[3+i]
				x.Firm, x.Loose = x.Firm[:len(x.Firm)/2], x.Firm[len(x.Firm)/2:]
				count++
			}
		}
		d := made(t, room, l...)
		fail(t, d, count)
		open(t, d, 100, laid("snap", "a", "", "b", "c", "d", "e"))
		checkE(t, "the next thing", d.Sync(0), api.ErrDown)
		back(t, d)
		checkDisk(t, d, firm(t, keptTapes()...))
	}
}

// S4: of tapes that have loose bytes the lesser one is synced first: 3 and 5 ahead of 6.
func TestOpenLooseRow(t *testing.T) {
	for n := range 4 {
		var l []api.Tape
		for i, s := range keptTapes() {
			l = append(l, api.Tape{Firm: s})
			if i == 3 || i == 5 || i == 6 {
				l[i] = api.Tape{Loose: s}
			}
		}
		d := made(t, room, l...)
		fail(t, d, n)
		_, _, e := vault.Open(d, 100)
		checkE(t, "Open", e, []api.Errno{api.ErrDown, api.ErrDown, api.ErrDown, api.OK}[n])
		for i, x := range d.Tapes() {
			if synced := i == 3 && n > 0 || i == 5 && n > 1 || i == 6 && n > 2; i < len(l) && i > 2 && i != 4 && synced != (x.Loose == "") {
				t.Errorf("behind %d things tape %d is %q", n, i, x)
			}
		}
	}
}

// S4: tapes from 2 on that the head does not name are wiped, if they have bytes, by rising numbers.
func TestOpenOthers(t *testing.T) {
	for n := range 5 {
		tapes := append(slices.Clone(keptTapes()), make([]string, maxTapes-7)...)
		tapes[2], tapes[7], tapes[31] = records("x"), "torn", snapshot("y")
		was := firm(t, tapes...)
		d := firm(t, tapes...)
		fail(t, d, n)
		v, _, e := vault.Open(d, 100)
		if n < 3 {
			checkE(t, "Open", e, api.ErrDown)
		} else {
			checkE(t, "Open", e, api.OK)
			checkHead(t, v, kept(), 6)
		}
		for i, other := range []int{2, 7, 31} {
			if i < n {
				changed(t, was, wipe(other))
			}
		}
		if n >= 3 {
			ended(t, d)
		}
		checkDisk(t, d, ended(t, was))
	}
	loose := make([]api.Tape, maxTapes)
	for i, s := range keptTapes() {
		loose[i].Firm = s
	}
	loose[2].Loose, loose[30] = "loose", api.Tape{Firm: "firm", Loose: "loose"}
	d := made(t, room, loose...)
	open(t, d, 100, laid("snap", "a", "", "b", "c", "d", "e"))
	checkDisk(t, d, firm(t, keptTapes()...))
}

// S4: the snapshot's tape has just one frame, of kind 2.
func TestOpenSnapshotWrong(t *testing.T) {
	s := snapshot("snap")
	wrong := []string{"", "torn", s[:len(s)-1], s[:9], s[:8], s + s, s + "\x00", s + "torn", "\x00" + s, s + records("a"), records("a") + s, records("snap"), framed(3, "snap"), framed(4, "snap"), framed(0, "snap"), whole(kept()), s[:9] + "Snap", s[:12] + "P"}
	for _, x := range wrong {
		tapes := with(keptTapes(), 5, x)
		d := firm(t, tapes...)
		checkWrong(t, d, 100, api.ErrForm)
		checkDisk(t, d, firm(t, tapes...))
		d = firm(t, with(with(tapes, 2, "other"), 6, records("e")+"torn")...) // others are wiped ahead of it, what is torn is trimmed behind it
		checkWrong(t, d, 100, api.ErrForm)
		checkDisk(t, d, firm(t, with(tapes, 6, records("e")+"torn")...))
		checkWrong(t, firm(t, with(tapes, 4, "torn")...), 100, api.ErrForm)
	}
}

// tails are bytes that begin by no frame.
func tails() []string {
	return []string{"\x00", "12345678", "torn, but longer than a frame", records("a")[:9], records("abc")[:8], records("abc")[:11], "\x00" + records("a"), framed(4, "none of the kinds"), strings.Repeat("\x00", 9), strings.Repeat("\xFF", 30), framed(1, "abc")[:9] + "abd" + records("e")}
}

// P10.7: what is torn behind the log's last frame is gone, and nothing else is.
func TestOpenTorn(t *testing.T) {
	for _, tail := range append(tails(), strings.Repeat("\x00", maxTape-len(records("e")))) {
		for _, ahead := range []string{"", records("e"), records("", "e")} {
			if len(ahead)+len(tail) > maxTape {
				continue
			}
			for firmly := range min(40, len(ahead)+len(tail)+1) {
				s := ahead + tail
				d := firm(t, with(keptTapes(), 6, s[:firmly])...)
				changed(t, d, write(6, s[firmly:]))
				_, payloads, _ := scanned(ahead)
				fail(t, d, 1) // what is trimmed is firm: it is not synced, too
				open(t, d, 100, laid("snap", append([]string{"a", "", "b", "c", "d"}, payloads...)...))
				checkE(t, "the next thing", d.Sync(0), api.ErrDown)
				back(t, d)
				checkDisk(t, d, firm(t, with(keptTapes(), 6, ahead)...))
			}
		}
	}
}

// S4: nothing is torn on the log's other tapes.
func TestOpenSumWrong(t *testing.T) {
	for _, tail := range tails() {
		for _, on := range []int{3, 4} {
			for _, ahead := range []string{"", records("x"), keptTapes()[on]} {
				tapes := with(keptTapes(), on, ahead+tail)
				d := firm(t, tapes...)
				checkWrong(t, d, 100, api.ErrSum)
				checkDisk(t, d, firm(t, tapes...))
			}
		}
	}
}

// S4: the log's tapes have frames of kind 1 alone.
func TestOpenKindWrong(t *testing.T) {
	for _, on := range []int{3, 4, 6} {
		for _, s := range []string{snapshot(""), framed(3, ""), snapshot("s") + records("a"), records("a", "b") + snapshot("s"), records("a") + whole(kept()) + records("b"), snapshot("s") + "torn", records("a") + framed(3, "h") + "torn"} {
			tapes := with(keptTapes(), on, s)
			d := firm(t, tapes...)
			checkWrong(t, d, 100, api.ErrForm)
			checkDisk(t, d, firm(t, tapes...))
		}
	}
}

// The table of errors: of two things that are wrong the one on the tape that comes first counts: the snapshot's, then the log's, in their row.
func TestOpenFirstWrong(t *testing.T) {
	torn, kind := records("x")+"torn", snapshot("s")
	for _, c := range []struct {
		snap, four, three, six string
		want                   api.Errno
	}{
		{snapshot("s"), torn, kind, "", api.ErrSum},
		{snapshot("s"), torn, "", kind, api.ErrSum},
		{snapshot("s"), "", torn, kind, api.ErrSum},
		{snapshot("s"), kind, torn, "", api.ErrForm},
		{snapshot("s"), "", kind, torn, api.ErrForm},
		{snapshot("s"), kind, torn, torn, api.ErrForm},
		{snapshot("s"), torn, kind, kind, api.ErrSum},
		{snapshot("s"), "", torn, torn, api.ErrSum},
		{snapshot("s"), kind + "torn", torn, torn, api.ErrForm},
		{"", torn, torn, torn, api.ErrForm},
		{records("s"), torn, "", "", api.ErrForm},
	} {
		tapes := with(with(with(with(keptTapes(), 5, c.snap), 4, c.four), 3, c.three), 6, c.six)
		d := firm(t, tapes...)
		checkWrong(t, d, 100, c.want)
		checkDisk(t, d, firm(t, tapes...))
	}
}

// S4: what is wrong is seen as it goes on: ahead of it tapes 0 and 1 are synced, and other tapes wiped; behind it nothing is synced.
func TestOpenWrongAsItGoesOn(t *testing.T) {
	var l, want []api.Tape
	for i, s := range keptTapes() {
		l, want = append(l, api.Tape{Loose: s}), append(want, api.Tape{Loose: s})
		if i < 2 {
			want[i] = api.Tape{Firm: s}
		}
	}
	l[2].Loose = "other"
	l[4].Loose, want[4].Loose = "torn", "torn"
	d := made(t, room, l...)
	checkWrong(t, d, 100, api.ErrSum)
	checkDisk(t, d, made(t, room, want...))
}

// P10.4: opened again, with another most too, a vault finds the same, and does nothing at all.
func TestOpenAgain(t *testing.T) {
	r := newRow()
	for range 300 {
		d := r.disk(t)
		v, f, e := vault.Open(d, 1+r.below(100))
		if e != api.OK {
			continue
		}
		h := v.Head()
		was := d.Copy()
		for _, most := range []int{1, 30, maxTape} {
			fail(t, d, 0)
			checkHead(t, open(t, d, most, f), h, len(f.Records))
			checkE(t, "the next thing", d.Sync(0), api.ErrDown)
			back(t, d)
			checkDisk(t, d, was)
		}
	}
}

// disk is one on whose tapes stands what may stand there, and what may not.
func (r *row) disk(t *testing.T) *disk.Disk {
	t.Helper()
	capacity := room
	l := make([]api.Tape, 10)
	h := api.Head{Gen: int64(1 + r.below(3)), Log: [][]int{{2}, {4, 3}, {9, 5, 2}}[r.below(3)]}
	if r.odds(2) {
		h.Snap, h.Base = 7, int64(r.below(3))
	}
	for i := range l {
		s := ""
		switch {
		case i < 2 && !r.odds(4), r.odds(40):
			g := h
			g.Gen += int64(i * r.below(2))
			s = whole(g)
		case i == 7 && !r.odds(8):
			s = snapshot(r.text(9))
		case !r.odds(3):
			for range r.below(4) {
				s += records(r.text(9))
			}
		}
		if r.odds(12) {
			s += r.text(20)
		}
		if r.odds(20) {
			s = s[:r.below(len(s)+1)]
		}
		at := len(s)
		if r.odds(4) {
			at = r.below(len(s) + 1)
		}
		l[i] = api.Tape{Firm: s[:at], Loose: s[at:]}
	}
	if r.odds(5) {
		capacity = made(t, room, l...).Used() + r.below(20)
	}
	return made(t, capacity, l...)
}

// P10.1: whatever stands on the tapes, and wherever the disk fails, all is done as by a plain vault.
func TestOpenAnyWay(t *testing.T) {
	r := newRow()
	var counts [64]int
	for range 6000 {
		d := r.disk(t)
		if r.odds(3) {
			fail(t, d, r.below(8))
		}
		_, _, e := twinOf(t, d, 1+r.below(100))
		counts[e]++
	}
	for _, e := range []api.Errno{api.OK, api.ErrForm, api.ErrSum, api.ErrDown} {
		if counts[e] < 200 {
			t.Errorf("error %d: only %d times", e, counts[e])
		}
	}
}
