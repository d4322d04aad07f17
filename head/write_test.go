package head_test

import (
	"math"
	"strings"
	"testing"

	"baton/api"
	"baton/disk"
)

// nones are tapes that have no head.
func nones() []string {
	s := whole(of(5))
	bent := s[:13] + "\x03"
	return []string{
		"", "\x00", "no frame is here, and no head", s[:1], s[:8], s[:9], s[:len(s)-1], bent, "\x00" + s, s[1:],
		framed(1, ""), framed(2, ""), framed(3, ""), framed(1, payload(of(5))), framed(2, payload(of(5))), framed(4, payload(of(5))), framed(0, payload(of(5))),
		framed(1, "a record") + s, framed(2, "a snapshot") + s, framed(3, "no head") + s, framed(3, payload(of(5))+"\x00"), framed(3, payload(of(5))[:4]), framed(3, payload(of(0))), framed(3, payload(of(maxRev+1))), framed(3, varints(1, 1, 0, 1, 2)),
	}
}

// P9.1: the head of a tape is that of its first frame, whatever is behind.
func TestOf(t *testing.T) {
	for _, h := range right() {
		checkOf(t, whole(h), h, true)
		for _, behind := range append(nones(), whole(of(9)), whole(h)) {
			checkOf(t, whole(h)+behind, h, true)
		}
		s := whole(h)
		for cut := range s {
			checkNone(t, s[:cut])
		}
		for at := range s {
			checkNone(t, s[:at]+string([]byte{s[at] ^ 1})+s[at+1:])
		}
	}
	checkOf(t, framed(3, "\x81\x00\x00\x80\x00\x01\x02"), of(1), true)
	checkOf(t, whole(of(1))+strings.Repeat("\x00", api.MaxTape-14), of(1), true)
	for _, s := range append(nones(), framed(3, strings.Repeat("\x00", 262144)), strings.Repeat("\x00", api.MaxTape)) {
		checkNone(t, s)
	}
	for _, h := range wrong() {
		checkNone(t, framed(3, varints(numbers(h)[:min(40, 4+len(h.Log))]...)))
	}
}

// stand is what tapes 0 and 1 may have: heads, and none.
func stand() []string {
	l := nones()
	for _, gen := range []int64{1, 2, 3, maxRev} {
		l = append(l, whole(of(gen)), whole(of(gen))+"torn", whole(api.Head{Gen: gen, Base: 4, Snap: 5, Log: []int{6, 7}}))
	}
	return append(l, whole(of(2))+whole(of(3)), whole(of(3))[:12])
}

// P9.2: the head that counts, of all that may stand on both tapes, firm or loose.
func TestLoad(t *testing.T) {
	for _, zero := range stand() {
		for _, one := range stand() {
			h, tape, is := plainLoad(zero, one)
			d := firm(t, zero, one, whole(of(maxRev)))
			checkLoad(t, d, h, tape, is, api.OK)
			loose := made(t, room, api.Tape{Loose: zero}, api.Tape{Firm: one[:len(one)/2], Loose: one[len(one)/2:]})
			checkLoad(t, loose, h, tape, is, api.OK)
			checkDisk(t, d, firm(t, zero, one, whole(of(maxRev))))
		}
	}
}

// P9.2: heads on tape 0 alone, on tape 1 alone, on both, of one generation on both, torn on either; heads on other tapes count nothing.
func TestLoadPlain(t *testing.T) {
	a, b := api.Head{Gen: 3, Log: []int{2}}, api.Head{Gen: 3, Log: []int{3}}
	more := api.Head{Gen: 4, Base: 1, Snap: 5, Log: []int{2, 3}}
	cases := []struct {
		zero, one string
		want      api.Head
		tape      int
		is        bool
	}{
		{"", "", api.Head{}, 0, false},
		{whole(a), "", a, 0, true},
		{"", whole(a), a, 1, true},
		{whole(a), whole(b), a, 0, true},
		{whole(b), whole(a), b, 0, true},
		{whole(a), whole(more), more, 1, true},
		{whole(more), whole(a), more, 0, true},
		{whole(a), whole(more)[:14], a, 0, true},
		{whole(more)[:14], whole(a), a, 1, true},
		{whole(a)[:13], whole(more)[:14], api.Head{}, 0, false},
		{whole(of(maxRev - 1)), whole(of(maxRev)), of(maxRev), 1, true},
		{whole(of(1 << 33)), whole(of(1)), of(1 << 33), 0, true},
	}
	for _, c := range cases {
		checkLoad(t, firm(t, c.zero, c.one), c.want, c.tape, c.is, api.OK)
		checkLoad(t, firm(t, c.zero, c.one, whole(of(99)), whole(of(98))), c.want, c.tape, c.is, api.OK)
	}
}

// The table of errors: no disk, one that is down, one that is to fail (it is read still).
func TestLoadWrong(t *testing.T) {
	checkLoad(t, nil, api.Head{}, 0, false, api.ErrNil)
	for _, tapes := range [][]string{{}, {whole(of(1))}, {"", whole(of(1))}, {whole(of(1)), whole(of(2))}} {
		d := ended(t, firm(t, tapes...))
		checkLoad(t, d, api.Head{}, 0, false, api.ErrDown)
		checkDisk(t, d, ended(t, firm(t, tapes...)))
	}
	d := firm(t, whole(of(1)))
	if e := d.Fail(0); e != api.OK {
		t.Fatal(e)
	}
	for range 5 {
		checkLoad(t, d, of(1), 0, true, api.OK)
	}
}

// P9.2: on which tape each one stands, and what the other one has.
func TestPutInARow(t *testing.T) {
	r := newRow()
	for _, begin := range [][]string{{}, {whole(of(1))}, {"", whole(of(1))}, {whole(of(1)), whole(of(2))}, {whole(of(2)), whole(of(1))}, {"torn", "torn"}, {whole(of(1)), "torn"}, {"torn", whole(of(1))}} {
		d := firm(t, begin...)
		last := 1 - goesOn(bothOf(begin))
		ahead := d.Tapes()[last]
		gen := int64(2)
		for range 12 {
			gen += 1 + int64(r.below(5))
			h := r.head()
			h.Gen = gen
			checkPut(t, d, h, api.OK)
			on := 1 - last
			checkLoad(t, d, h, on, true, api.OK)
			want := make([]api.Tape, maxTapes)
			want[on], want[last] = api.Tape{Firm: whole(h)}, ahead
			checkDisk(t, d, made(t, room, want...))
			last, ahead = on, want[on]
		}
	}
}

// P9.2: a head of a lesser generation, or of the same, stands where the one that counts doesn't; that of the same counts on tape 0.
func TestPutLesser(t *testing.T) {
	same := api.Head{Gen: 5, Log: []int{9}}
	cases := []struct {
		begin []string
		put   api.Head
		want  api.Head
		tape  int
	}{
		{[]string{whole(of(5))}, of(4), of(5), 0},
		{[]string{"", whole(of(5))}, of(4), of(5), 1},
		{[]string{whole(of(5)), whole(of(4))}, of(3), of(5), 0},
		{[]string{whole(of(4)), whole(of(5))}, of(1), of(5), 1},
		{[]string{whole(of(5))}, same, of(5), 0},
		{[]string{"", whole(of(5))}, same, same, 0},
		{[]string{whole(of(5)), whole(of(5))}, same, of(5), 0},
		{[]string{whole(of(5)), whole(of(4))}, of(6), of(6), 1},
	}
	for _, c := range cases {
		d := firm(t, c.begin...)
		checkPut(t, d, c.put, api.OK)
		checkLoad(t, d, c.want, c.tape, true, api.OK)
		on := goesOn(bothOf(c.begin))
		if s, _ := d.Read(on); s != whole(c.put) {
			t.Errorf("Put(%s) on %q: tape %d is %.60q", show(c.put), c.begin, on, s)
		}
	}
}

// P9.2: all that may stand on both tapes, firm or loose, is treated as is done by hand; the disk fails, or has no room, or neither.
func TestPutByHand(t *testing.T) {
	r := newRow()
	var counts [64]int
	for _, zero := range stand() {
		for _, one := range stand() {
			h := r.head()
			a, b := r.below(len(zero)+1), r.below(len(one)+1)
			tapes := []api.Tape{{Firm: zero[:a], Loose: zero[a:]}, {Firm: one[:b], Loose: one[b:]}, {Firm: "log", Loose: "loose"}}
			capacity := len(zero) + len(one) + 8 + r.below(2)*r.below(50)
			for fail := -1; fail < 5; fail++ {
				d := made(t, capacity, tapes...)
				if fail >= 0 {
					d.Fail(fail)
				}
				want := d.Copy()
				e := byHand(want, h, zero, one)
				checkPut(t, d, h, e)
				checkDisk(t, d, want)
				counts[e]++
			}
		}
	}
	for _, e := range []api.Errno{api.OK, api.ErrFull, api.ErrDown} {
		if counts[e] < 100 {
			t.Errorf("error %d: only %d times", e, counts[e])
		}
	}
}

// byHand writes a head by what the document says.
func byHand(d *disk.Disk, h api.Head, zero, one string) api.Errno {
	on := goesOn(zero, one)
	if e := d.Wipe(on); e != api.OK {
		return e
	}
	if e := d.Write(on, whole(h)); e != api.OK {
		return e
	}
	return d.Sync(on)
}

// The table of errors: ErrNil, then ErrForm, then what the disk answers.
func TestPutWrong(t *testing.T) {
	checkPut(t, nil, of(1), api.ErrNil)
	for _, h := range wrong() {
		checkPut(t, nil, h, api.ErrNil)
		checkPut(t, ended(t, firm(t)), h, api.ErrForm)
		for _, tapes := range [][]string{{}, {whole(of(1))}, {whole(of(1)), whole(of(2))}} {
			d := firm(t, tapes...)
			checkPut(t, d, h, api.ErrForm)
			checkDisk(t, d, firm(t, tapes...))
			if e := d.Fail(0); e != api.OK {
				t.Fatal(e)
			}
			checkPut(t, d, h, api.ErrForm)
			if !d.Up() {
				t.Errorf("Put(%s): it was counted", show(h))
			}
		}
	}
	for _, tapes := range [][]string{{}, {whole(of(1))}, {whole(of(1)), whole(of(2))}} {
		d := ended(t, firm(t, tapes...))
		checkPut(t, d, of(3), api.ErrDown)
		checkDisk(t, d, ended(t, firm(t, tapes...)))
	}
}

// The table of errors: without room the head that counts stays, and stands where it stood; what was wiped gives its room.
func TestPutFull(t *testing.T) {
	for _, c := range []struct {
		begin    []string
		capacity int
		want     api.Errno
	}{
		{[]string{}, 0, api.ErrFull},
		{[]string{}, 13, api.ErrFull},
		{[]string{}, 14, api.OK},
		{[]string{whole(of(1))}, 14, api.ErrFull},
		{[]string{whole(of(1))}, 27, api.ErrFull},
		{[]string{whole(of(1))}, 28, api.OK},
		{[]string{whole(of(1)), "torn"}, 27, api.ErrFull},
		{[]string{whole(of(1)), "torn"}, 28, api.OK},
		{[]string{whole(of(1)), whole(of(2))}, 28, api.OK},
		{[]string{whole(of(2)), whole(of(1))}, 28, api.OK},
		{[]string{whole(of(2)), framed(3, "\x01\x00\x00\x01")}, 27, api.ErrFull},
		{[]string{whole(of(1)), whole(of(2)), "log"}, 31, api.OK},
		{[]string{whole(of(1)), "", "log"}, 30, api.ErrFull},
	} {
		var l []api.Tape
		for _, s := range c.begin {
			l = append(l, api.Tape{Firm: s})
		}
		d := made(t, c.capacity, l...)
		checkPut(t, d, of(3), c.want)
		h, tape, is := of(3), goesOn(bothOf(c.begin)), true
		if c.want != api.OK {
			h, tape, is = plainLoad(bothOf(c.begin))
		}
		checkLoad(t, d, h, tape, is, api.OK)
	}
}

// The ends of the generations: that of MaxRev is put behind the one ahead of it; behind it there is no greater one, and it stays.
func TestPutAtMaxRev(t *testing.T) {
	d := firm(t, whole(of(maxRev-1)))
	checkPut(t, d, of(maxRev), api.OK)
	checkLoad(t, d, of(maxRev), 1, true, api.OK)
	for _, gen := range []int64{maxRev + 1, 2 * maxRev, math.MaxInt64} {
		checkPut(t, d, of(gen), api.ErrForm)
		checkDisk(t, d, firm(t, whole(of(maxRev-1)), whole(of(maxRev))))
		checkLoad(t, d, of(maxRev), 1, true, api.OK)
	}
}
