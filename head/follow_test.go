package head_test

import (
	"math"
	"slices"
	"testing"

	"baton/api"
	"baton/disk"
	"baton/head"
)

// P9.5: Decode of Encode is the head.
func TestBack(t *testing.T) {
	r := newRow()
	l := right()
	for range 10000 {
		l = append(l, r.head())
	}
	for _, h := range l {
		s, e := head.Encode(h)
		if e != api.OK {
			t.Errorf("Encode(%s): %d", show(h), e)
		}
		checkDecode(t, s, h, api.OK)
	}
}

// ends are generations at both ends of what may be, and beyond them.
func ends() []int64 {
	return []int64{math.MinInt64, -1, 0, 1, 2, maxRev - 1, maxRev, maxRev + 1, maxRev + 2, 2 * maxRev, math.MaxInt64 - 1, math.MaxInt64}
}

// P9.5: whatever Encode doesn't refuse is read again.
func TestBackAny(t *testing.T) {
	r := newRow()
	var counts [64]int
	for range 2000 {
		for _, gen := range ends() {
			h := r.any()
			h.Gen = gen
			s, e := head.Encode(h)
			counts[e]++
			if e == api.OK {
				checkDecode(t, s, h, api.OK)
			}
		}
	}
	for _, e := range []api.Errno{api.OK, api.ErrForm} {
		if counts[e] < 1000 {
			t.Errorf("error %d: only %d times", e, counts[e])
		}
	}
}

// P9.4: what Put has told to be written counts, also behind a Back; what it refuses has done nothing.
func TestPutCounts(t *testing.T) {
	for _, begin := range begins() {
		old, _, was := plainLoad(begin[0], begin[1])
		for _, gen := range ends() {
			if was && gen <= old.Gen {
				continue
			}
			d := firm(t, begin...)
			if gen < 1 || gen > maxRev {
				checkPut(t, d, of(gen), api.ErrForm)
				checkDisk(t, d, firm(t, begin...))
				continue
			}
			checkPut(t, d, of(gen), api.OK)
			on := goesOn(begin[0], begin[1])
			checkLoad(t, d, of(gen), on, true, api.OK)
			if e := d.Back(nil); e != api.OK {
				t.Fatal(e)
			}
			checkLoad(t, d, of(gen), on, true, api.OK)
		}
	}
}

// begins are what tapes 0 and 1 have ahead of a Put, all firm: no head, and heads on one, or on both.
func begins() [][]string {
	a, b := whole(of(4)), whole(api.Head{Gen: 5, Base: 9, Snap: 3, Log: []int{4, 2}})
	return [][]string{
		{"", ""}, {a, ""}, {"", a}, {a, b}, {b, a}, {a, a}, {a, b[:len(b)-1]}, {b[:10], a}, {b[:10], a[:10]}, {a, b + "more"}, {b + "more", a}, {framed(1, "record"), a}, {a, framed(2, "snapshot")},
	}
}

// P9.4: wherever the disk fails in a Put, and whatever stays of what was loose, the old one counts, or the new one.
func TestOldOrNew(t *testing.T) {
	h := api.Head{Gen: 6, Base: 300, Snap: 7, Log: []int{8, 9, 4}}
	frame := whole(h)
	for _, begin := range begins() {
		old, oldTape, was := plainLoad(begin[0], begin[1])
		on := goesOn(begin[0], begin[1])
		for fail := range 6 {
			for keep := range len(frame) + 1 {
				d := firm(t, begin[0], begin[1], "log")
				if e := d.Fail(fail); e != api.OK {
					t.Fatal(e)
				}
				want := api.ErrDown
				if fail >= 3 {
					want = api.OK
				}
				checkPut(t, d, h, want)
				if d.Up() != (want == api.OK) {
					t.Errorf("Fail(%d): up %v", fail, d.Up())
				}
				if e := d.Back([]int{keep}); e != api.OK {
					t.Fatal(e)
				}
				if want == api.OK || fail > 0 && keep == len(frame) {
					checkLoad(t, d, h, on, true, api.OK)
				} else {
					checkLoad(t, d, old, oldTape, was, api.OK)
				}
			}
		}
	}
}

// P9.4: Put again and again, with failures between: what counts is the last one that was OK, or one that was tried since.
func TestOldOrNewInARow(t *testing.T) {
	r := newRow()
	failed := 0
	for range 300 {
		d := firm(t)
		var counts api.Head
		for gen := int64(1); gen < 20; gen++ {
			h := r.head()
			h.Gen = gen
			if r.odds(2) {
				d.Fail(r.below(4))
			}
			e := head.Put(d, h)
			if e != api.OK {
				failed++
			}
			d.Back([]int{r.below(100)})
			got, _, is, loaded := head.Load(d)
			if loaded != api.OK || is != (got.Gen > 0) {
				t.Fatalf("%v, %v, %d", got, is, loaded)
			}
			if !equal(got, h) && (e == api.OK || !equal(got, counts)) {
				t.Fatalf("Put(%v): %d; behind a Back %v counts, not %v", h, e, got, counts)
			}
			counts = got
		}
	}
	if failed < 500 {
		t.Errorf("only %d of them failed", failed)
	}
}

// P9.6: a Put changes that one of the tapes 0 and 1 alone on which the head that counts doesn't stand, whether it is done, refused, or fails.
func TestOtherTapes(t *testing.T) {
	r := newRow()
	for round := range 3000 {
		begin := begins()[round%len(begins())]
		l := make([]api.Tape, maxTapes)
		l[0], l[1] = api.Tape{Firm: begin[0]}, api.Tape{Firm: begin[1]}
		for i := 2; i < maxTapes; i++ {
			l[i] = api.Tape{Firm: r.text(4), Loose: r.text(4)}
		}
		if r.odds(3) {
			at := r.below(len(begin[0]) + 1)
			l[0] = api.Tape{Firm: begin[0][:at], Loose: begin[0][at:]}
		}
		if r.odds(3) {
			l[2+r.below(30)].Firm = whole(of(99))
		}
		capacity := room
		if r.odds(3) {
			capacity = made(t, room, l...).Used() + r.below(20)
		}
		d := made(t, capacity, l...)
		if r.odds(3) {
			d.Fail(r.below(4))
		}
		on := goesOn(begin[0], begin[1])
		head.Put(d, r.any())
		for i, got := range d.Tapes() {
			if i != on && got != l[i] {
				t.Fatalf("tape %d was %q, is %q; tape %d is written", i, l[i], got, on)
			}
		}
	}
}

// P9.7: each tape from 2 on is free, or used, and not both; no other one is free, whatever the head.
func TestParted(t *testing.T) {
	r := newRow()
	l := append(right(), wrong()...)
	for range 5000 {
		l = append(l, r.any())
	}
	for _, h := range l {
		free := head.Free(h)
		if !slices.IsSorted(free) || len(slices.Compact(slices.Clone(free))) != len(free) {
			t.Errorf("Free(%s) = %v", show(h), free)
		}
		for x := -5; x < 70; x++ {
			within := x >= 2 && x < maxTapes
			is := slices.Contains(free, x)
			if is && !within || within && is == head.Uses(h, x) {
				t.Errorf("tape %d of %s: free %v, used %v", x, show(h), is, head.Uses(h, x))
			}
		}
		used := len(h.Log)
		if h.Snap != 0 {
			used++
		}
		if plainMay(h) && len(free)+used != 30 {
			t.Errorf("Free(%s) = %v", show(h), free)
		}
	}
}

// R1: what is handed in stays, the log and what stands behind it too.
func TestHandedIn(t *testing.T) {
	back := []int{2, 5, 9, 77, 78}
	h := api.Head{Gen: 3, Base: 2, Snap: 4, Log: back[:3]}
	d := firm(t)
	head.May(h)
	head.Same(h, h)
	head.Encode(h)
	head.Size(h)
	head.Uses(h, 5)
	_ = append(head.Free(h), 1, 2, 3)
	head.Put(d, h)
	if !slices.Equal(back, []int{2, 5, 9, 77, 78}) || !equal(h, api.Head{Gen: 3, Base: 2, Snap: 4, Log: []int{2, 5, 9}}) {
		t.Errorf("it became %v, %v", h, back)
	}
	back[1] = 6 // what is written shares nothing with it
	checkLoad(t, d, api.Head{Gen: 3, Base: 2, Snap: 4, Log: []int{2, 5, 9}}, 0, true, api.OK)
}

// R1: what is told shares nothing with what is told again.
func TestToldApart(t *testing.T) {
	want := api.Head{Gen: 3, Log: []int{2, 5, 9}}
	s := whole(want)
	d := firm(t, s)
	tell := []func() []int{
		func() []int { h, _ := head.Decode(payload(want)); return h.Log },
		func() []int { h, _ := head.Of(s); return h.Log },
		func() []int { h, _, _, _ := head.Load(d); return h.Log },
		func() []int { return head.Free(want) },
	}
	for i, f := range tell {
		first := f()
		kept := slices.Clone(first)
		for j := range first {
			first[j] = 99
		}
		_ = append(first[:1], 98)
		if again := f(); !slices.Equal(again, kept) {
			t.Errorf("%d: %v became %v", i, kept, again)
		}
	}
	checkDisk(t, d, firm(t, s))
}

// R1: no call panics, whatever it is handed.
func TestWhatever(t *testing.T) {
	r := newRow()
	disks := []*disk.Disk{nil, new(disk.Disk), firm(t), ended(t, firm(t)), firm(t, whole(of(1)))}
	for range 3000 {
		h := api.Head{Gen: int64(r.next()), Base: int64(r.next()), Snap: int(r.next())}
		for range r.below(50) {
			h.Log = append(h.Log, int(r.next()))
		}
		head.May(h)
		head.Same(h, h)
		head.Encode(h)
		head.Size(h)
		head.Free(h)
		head.Uses(h, int(r.next()))
		head.Decode(r.text(40))
		head.Of(r.text(60))
		for _, d := range disks {
			head.Put(d, h)
			head.Load(d)
		}
	}
	long := api.Head{Gen: 1, Log: make([]int, 1<<20)}
	if head.May(long) || head.Size(long) != 0 || !head.Same(long, long) || len(head.Free(long)) != 30 {
		t.Error("a long log")
	}
}
