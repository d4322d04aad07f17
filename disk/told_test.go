package disk_test

import (
	"math"
	"slices"
	"testing"

	"baton/api"
	"baton/disk"
)

// P7.3: what is told of a disk that is up, that is to fail, that is down, and that came back.
func TestTold(t *testing.T) {
	d := made(t, 12, write(3, "abc"), sync(3), write(3, "d"), write(0, "ef"))
	check := func(up bool, want map[int]api.Tape) {
		t.Helper()
		if d.Up() != up || d.Capacity() != 12 {
			t.Errorf("Up() = %v, Capacity() = %d; want %v, 12", d.Up(), d.Capacity(), up)
		}
		checkTapes(t, d, tapes(want))
	}
	check(true, map[int]api.Tape{0: {Loose: "ef"}, 3: {Firm: "abc", Loose: "d"}})
	do(t, d, fail(0))
	check(true, map[int]api.Tape{0: {Loose: "ef"}, 3: {Firm: "abc", Loose: "d"}})
	checkDo(t, d, write(4, "gh"), api.ErrDown)
	check(false, map[int]api.Tape{0: {Loose: "ef"}, 3: {Firm: "abc", Loose: "d"}, 4: {Loose: "gh"}})
	do(t, d, back(1, 1, 2))
	check(true, map[int]api.Tape{0: {Firm: "e"}, 3: {Firm: "abcd"}, 4: {Firm: "gh"}})
}

// P7.3, R1: what Tapes told may be written over: the disk stays, and tells it again.
func TestTapesApart(t *testing.T) {
	d := made(t, 12, write(3, "abc"), sync(3), write(3, "d"))
	want := d.Tapes()
	got := d.Tapes()
	for i := range got {
		got[i] = api.Tape{Firm: "zz", Loose: "z"}
	}
	_ = append(got[:0], api.Tape{Loose: "y"})
	checkTapes(t, d, want)
	do(t, d, wipe(3))
	if want[3] != (api.Tape{Firm: "abc", Loose: "d"}) {
		t.Errorf("what was told became %s", told(want))
	}
}

// P7.3: nobody's disk.
func TestNobody(t *testing.T) {
	var d *disk.Disk
	if d.Up() || d.Used() != 0 || d.Capacity() != 0 || len(d.Tapes()) != 0 || d.Copy() != nil {
		t.Error("something is told of no disk")
	}
	for _, x := range []thing{
		write(0, "a"), write(-1, ""), write(32, ""), sync(0), sync(-1), trim(0, 0), trim(0, -1), trim(-1, 0), wipe(0), wipe(99), read(0), read(-1), fail(0), fail(-1), fail(5), back(), back(1, -1),
	} {
		checkDo(t, d, x, api.ErrNil)
	}
}

// P7.3: a copy goes its own way, and so does what it was copied of.
func TestCopy(t *testing.T) {
	begin := []thing{write(1, "abc"), sync(1), write(1, "de"), write(2, "f")}
	things := []thing{write(1, "x"), write(1, "y"), write(0, "z"), sync(1), trim(1, 1), trim(1, 4), wipe(1), fail(0), fail(7), back(), back(1, 1)}
	for _, state := range [][]thing{{}, {fail(0)}, {fail(1)}, {fail(2)}, {fail(9)}, {back(1)}} {
		for _, a := range things {
			for _, b := range things {
				d := made(t, 20, begin...)
				do(t, d, state...)
				c := d.Copy()
				if c == d || !disk.Same(c, d) || c.Up() != d.Up() {
					t.Fatalf("a copy is not the same: %s, %s", told(c.Tapes()), told(d.Tapes()))
				}
				p := newPlain(20)
				for _, x := range slices.Concat(begin, state) {
					p.do(x)
				}
				one, other := &pair{d: d, p: p}, &pair{d: c, p: p.copied()}
				for _, x := range []thing{a, b, a} { // each in turn: both are looked at behind each
					one.do(t, x)
					checkAll(t, c, other.p)
					other.do(t, b)
					checkAll(t, d, one.p)
				}
			}
		}
	}
}

// P7.3: a copy fails as the disk is to, but does not take it along; a copy of one that is down is down.
func TestCopyFails(t *testing.T) {
	for n := range 4 {
		d := made(t, 20, write(1, "abc"), fail(n))
		c := d.Copy()
		for _, x := range []*disk.Disk{c, d} {
			for range n {
				do(t, x, write(1, "d"))
			}
			if !x.Up() {
				t.Errorf("Fail(%d): down too soon", n)
			}
			checkDo(t, x, write(1, "e"), api.ErrDown)
			if x.Up() {
				t.Errorf("Fail(%d): up", n)
			}
		}
		if !disk.Same(c, d) {
			t.Errorf("Fail(%d): %s, %s", n, told(c.Tapes()), told(d.Tapes()))
		}
		c = d.Copy()
		if c.Up() || !disk.Same(c, d) {
			t.Error("a copy of one that is down is up")
		}
		do(t, d, back())
		checkDo(t, c, read(1), api.ErrDown)
		if c.Up() || !d.Up() || disk.Same(c, d) {
			t.Error("a copy came back too")
		}
	}
}

// P7.3: disks that are unlike in one thing are not the same; those that came to be alike by other ways are.
func TestSame(t *testing.T) {
	kinds := [][]*disk.Disk{
		{nil, nil, (*disk.Disk)(nil).Copy()},
		{made(t, 0), made(t, 0, sync(1))},
		{made(t, 20), made(t, 20, write(1, "abc"), wipe(1)), made(t, 20, write(1, "abc"), trim(1, 0)), made(t, 20, write(1, "abc"), back()), made(t, 20, fail(0), back()), made(t, 20, fail(5), sync(0), back())},
		{made(t, 21), made(t, 21, write(0, ""))},
		{made(t, math.MaxInt)},
		{made(t, 20, write(1, "abc")), made(t, 20, write(1, "a"), write(1, "bc")), made(t, 20, write(1, "x"), wipe(1), write(1, "abc"))},
		{made(t, 20, write(1, "abd"))},
		{made(t, 20, write(1, "abcd"))},
		{made(t, 20, write(2, "abc"))},
		{made(t, 20, write(31, "abc"))},
		{made(t, 20, write(0, "abc"))},
		{made(t, 20, write(1, "abc"), write(2, "abc"))},
		{made(t, 20, write(1, "abc"), sync(1)), made(t, 20, write(1, "abc"), back(3)), made(t, 20, write(1, "abcd"), trim(1, 3)), made(t, 20, write(1, "ab"), sync(1), write(1, "c"), sync(1))},
		{made(t, 20, write(1, "abd"), sync(1))},
		{made(t, 20, write(1, "ab"), sync(1), write(1, "c"))},
		{made(t, 20, write(1, "ab"), sync(1), write(1, "d"))},
		{made(t, 20, write(1, "a"), sync(1), write(1, "bc")), made(t, 20, write(1, "a"), sync(1), write(1, "b"), write(1, "c"))},
		{made(t, 20, fail(0)), made(t, 20, fail(1), sync(0)), made(t, 20, fail(9), fail(0))},
		{made(t, 20, fail(1)), made(t, 20, fail(2), sync(0)), made(t, 20, fail(0), fail(1))},
		{made(t, 20, fail(2))},
		{made(t, 20, fail(math.MaxInt))},
		{ended(t, made(t, 20)), ended(t, made(t, 20, fail(3), sync(0))), ended(t, made(t, 20, write(1, "abc"), wipe(1)))},
		{ended(t, made(t, 21))},
		{ended(t, made(t, 20, write(1, "abc")))},
		{ended(t, made(t, 20, write(1, "abc"), sync(1)))},
		{ended(t, made(t, 20, write(1, "ab"), sync(1), write(1, "c")))},
		{made(t, 20, write(1, "abc"), fail(0))},
		{made(t, 20, write(1, "abc"), fail(1))},
	}
	torn := made(t, 20, fail(0))
	checkDo(t, torn, write(1, "abc"), api.ErrDown)
	if !disk.Same(torn, ended(t, made(t, 20, write(1, "abc")))) {
		t.Error("down by a Write, and behind it, are not the same")
	}
	for i, l := range kinds {
		for j, m := range kinds {
			for _, a := range l {
				for _, b := range m {
					if disk.Same(a, b) != (i == j) {
						t.Errorf("Same(a %d, a %d) = %v: %s, %s", i, j, i != j, told(a.Tapes()), told(b.Tapes()))
					}
				}
			}
		}
	}
}

// P7.3, R3: what is asked of disks changes none.
func TestAsked(t *testing.T) {
	d := made(t, 20, write(1, "abc"), sync(1), write(1, "d"), fail(1))
	was := d.Copy()
	for range 5 {
		d.Up()
		d.Used()
		d.Capacity()
		d.Tapes()
		d.Copy()
		d.Read(1)
		d.Read(-1)
		disk.Same(d, was)
	}
	if !disk.Same(d, was) {
		t.Errorf("it became %s", told(d.Tapes()))
	}
	do(t, d, sync(1))
	checkDo(t, d, sync(1), api.ErrDown)
}
