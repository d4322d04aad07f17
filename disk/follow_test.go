package disk_test

import (
	"slices"
	"strings"
	"testing"

	"baton/api"
	"baton/disk"
)

// some are things of each kind, on tapes that have much in common, many of which are refused.
func some() []thing {
	return []thing{
		write(0, "a"), write(0, "bcd"), write(0, "efghij"), write(0, ""), write(31, "k"), write(-1, "l"), sync(0), sync(31), sync(32), trim(0, 0), trim(0, 2), trim(0, 4), trim(31, -1), wipe(0), wipe(31), wipe(-1),
		fail(0), fail(1), fail(2), fail(-1), back(), back(1), back(2, 1), back(-1, 7),
	}
}

// P7.2, P7.3: three things of each kind behind one another, held against a plain disk.
func TestEachWay(t *testing.T) {
	begin := []thing{write(0, "xy"), write(31, "z"), sync(0), write(0, "uv")}
	for _, a := range some() {
		for _, b := range some() {
			one := newPair(t, 8)
			for _, x := range append(slices.Clone(begin), a, b) {
				one.do(t, x)
			}
			for _, c := range some() {
				one.copied().do(t, c)
			}
		}
	}
}

// P7.2, P7.3: long rows of any things, held against a plain disk, with copies that go on behind what they were copied of.
func TestAnyWay(t *testing.T) {
	r := newRow()
	for round := range 300 {
		one := newPair(t, round%40)
		var copies []*pair
		for range 80 {
			one.do(t, r.thing())
			if r.odds(20) {
				copies = append(copies, one.copied())
			}
		}
		for _, c := range copies {
			if !checkAll(t, c.d, c.p) {
				t.Fatalf("a copy, behind %v", c.story)
			}
			for range 20 {
				c.do(t, r.thing())
			}
		}
		checkAll(t, one.d, one.p)
	}
}

// filled is a disk with firm and loose bytes on many tapes.
func filled(t *testing.T, r *row) *disk.Disk {
	t.Helper()
	l := make([]api.Tape, api.MaxTapes)
	for i := range l {
		if !r.odds(3) {
			l[i] = api.Tape{Firm: r.text(5), Loose: r.text(5)}
		}
	}
	d, e := disk.Load(400, l)
	if e != api.OK {
		t.Fatal(e)
	}
	return d
}

// P7.4: behind a Back each tape is what was firm, and a beginning of what was loose; nothing is loose.
func TestKept(t *testing.T) {
	r := newRow()
	parts := 0
	for round := range 300 {
		d := filled(t, r)
		was := d.Tapes()
		if round%2 == 0 {
			ended(t, d)
		}
		keep := r.keep()
		for range r.below(30) {
			keep = append(keep, r.below(100)-50)
		}
		do(t, d, back(keep...))
		for i, now := range d.Tapes() {
			if now.Loose != "" || !strings.HasPrefix(now.Firm, was[i].Firm) || !strings.HasPrefix(was[i].Firm+was[i].Loose, now.Firm) {
				t.Errorf("Back(%v): tape %d was %q, is %q", keep, i, was[i], now)
			}
			if len(was[i].Firm) < len(now.Firm) && len(now.Firm) < len(was[i].Firm+was[i].Loose) {
				parts++
			}
		}
	}
	if parts == 0 {
		t.Error("no tape kept a part of what was loose")
	}
}

// P7.5: behind Fail(n) just n things are done still, whatever is refused or read among them; then all answers ErrDown.
func TestCounted(t *testing.T) {
	r := newRow()
	for round := range 200 {
		n := round % 20
		d := filled(t, r)
		do(t, d, fail(n))
		done := 0
		for d.Up() {
			x := r.thing()
			if x.call == "Fail" || x.call == "Back" {
				continue
			}
			was := d.Copy()
			_, e := x.to(d)
			switch {
			case d.Up() && x.counted() && e == api.OK:
				done++
			case d.Up() && !disk.Same(was, d):
				t.Errorf("%v: %d, and the disk is another one", x, e)
			case !d.Up() && (!x.counted() || e != api.ErrDown || done != n):
				t.Errorf("%v: %d, down behind %d things; want %d", x, e, done, n)
			}
			if done > n {
				t.Fatalf("%d things are done; want %d", done, n)
			}
		}
		was := d.Copy()
		for range 40 {
			if x := r.thing(); x.call != "Back" {
				checkDo(t, d, x, api.ErrDown)
			}
		}
		if !disk.Same(was, d) {
			t.Error("a disk that is down became another one")
		}
		do(t, d, back())
		for range n + 5 {
			do(t, d, sync(0))
		}
	}
}

// P7.6: what is done with a tape changes no other one, whether it is done, or refused, or the disk fails at it.
func TestApart(t *testing.T) {
	r := newRow()
	for range 30 {
		full := filled(t, r)
		for tape := range api.MaxTapes {
			for _, x := range []thing{write(tape, "abc"), write(tape, ""), write(tape, strings.Repeat("x", 500)), sync(tape), trim(tape, 1), trim(tape, 0), trim(tape, 99), wipe(tape), read(tape)} {
				for _, left := range []int{-1, 0, 1} {
					d := full.Copy()
					if left >= 0 {
						do(t, d, fail(left))
					}
					x.to(d)
					for i, now := range d.Tapes() {
						if i != tape && now != full.Tapes()[i] {
							t.Errorf("%v: tape %d was %q, is %q", x, i, full.Tapes()[i], now)
						}
					}
				}
			}
		}
	}
}

// P7.7: all tapes never have more than the capacity, and a Write of bytes for which there is room is done.
func TestRoom(t *testing.T) {
	r := newRow()
	full, torn := 0, 0
	for capacity := range 60 {
		d := made(t, capacity)
		for range 200 {
			x := r.thing()
			was := d.Copy()
			_, e := x.to(d)
			if d.Used() > capacity {
				t.Fatalf("%v: %d bytes; the capacity is %d", x, d.Used(), capacity)
			}
			if x.call == "Write" && 0 <= x.t && x.t < api.MaxTapes && e != api.ErrDown {
				if is := len(x.s) <= capacity-was.Used(); is != (e == api.OK) {
					t.Errorf("%v: %d, with room for %d", x, e, capacity-was.Used())
				}
			}
			switch {
			case e == api.ErrFull:
				full++
			case e == api.ErrDown && d.Used() > was.Used():
				torn++
			}
			if !d.Up() && r.odds(3) {
				do(t, d, back(r.keep()...))
			}
			if room := capacity - d.Used(); d.Up() {
				c := d.Copy()
				c.Fail(1)
				checkDo(t, c, write(r.below(api.MaxTapes), strings.Repeat("x", room+1)), api.ErrFull)
				checkDo(t, c, write(r.below(api.MaxTapes), strings.Repeat("x", room)), api.OK)
			}
		}
	}
	if full == 0 || torn == 0 {
		t.Errorf("%d Writes without room, %d at which it failed", full, torn)
	}
}

// P7.8: what is synced, or trimmed, is there behind any failure, till it is trimmed, or wiped.
func TestFirm(t *testing.T) {
	r := newRow()
	held := 0
	for range 200 {
		d := made(t, 100)
		var firm [api.MaxTapes]string
		for range 100 {
			x := r.thing()
			was, _ := d.Read(max(0, min(x.t, api.MaxTapes-1)))
			if _, e := x.to(d); e == api.OK {
				switch x.call {
				case "Sync":
					firm[x.t] = was
				case "Trim":
					firm[x.t] = was[:x.n]
				case "Wipe":
					firm[x.t] = ""
				}
			}
			c := d.Copy()
			if r.odds(2) {
				c.Fail(r.below(2))
				write(r.below(api.MaxTapes), r.text(3)).to(c)
			}
			c.Back(r.keep())
			for i, s := range firm {
				if now, e := c.Read(i); e != api.OK || !strings.HasPrefix(now, s) {
					t.Fatalf("%v: tape %d is %q; %q was firm", x, i, now, s)
				}
				held += len(s)
			}
		}
	}
	if held == 0 {
		t.Error("nothing was firm")
	}
}
