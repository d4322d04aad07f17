package disk_test

import (
	"math"
	"strings"
	"testing"

	"baton/api"
	"baton/disk"
)

// checkLoad holds what is refused against its error: there is no disk then.
func checkLoad(t *testing.T, capacity int, l []api.Tape, want api.Errno) {
	t.Helper()
	if d, e := disk.Load(capacity, l); e != want || (d == nil) != (want != api.OK) {
		t.Errorf("Load(%d, %s): %d, a disk: %v; want %d", capacity, told(l), e, d != nil, want)
	}
}

// The table of errors: New.
func TestNewWrong(t *testing.T) {
	for _, capacity := range []int{-1, -2, -api.MaxTape, math.MinInt + 1, math.MinInt} {
		if d, e := disk.New(capacity); d != nil || e != api.ErrArg {
			t.Errorf("New(%d): %d, a disk: %v", capacity, e, d != nil)
		}
		checkLoad(t, capacity, nil, api.ErrArg)
	}
}

// The table of errors: Load, with one thing wrong, and with two and three.
func TestLoadWrong(t *testing.T) {
	big := strings.Repeat("x", api.MaxTape)
	many := func(n int, x api.Tape) []api.Tape {
		l := make([]api.Tape, n)
		l[n-1] = x
		return l
	}
	checkLoad(t, 0, many(api.MaxTapes, api.Tape{}), api.OK)
	checkLoad(t, 0, many(api.MaxTapes+1, api.Tape{}), api.ErrArg)
	checkLoad(t, math.MaxInt, many(api.MaxTapes+1, api.Tape{}), api.ErrArg)
	checkLoad(t, math.MaxInt, many(1000, api.Tape{}), api.ErrArg)
	for _, wide := range []api.Tape{{Firm: big + "y"}, {Loose: big + "y"}, {Firm: big, Loose: "y"}, {Firm: "y", Loose: big}, {Firm: big, Loose: big}, {Firm: big[1:], Loose: "yz"}, {Firm: big + big}} {
		for n := 1; n <= api.MaxTapes; n++ {
			checkLoad(t, math.MaxInt, many(n, wide), api.ErrTooLarge)
			checkLoad(t, 0, many(n, wide), api.ErrTooLarge) // ahead of ErrFull
			l := many(n, wide)
			l[0].Firm += "z" // a tape for which there is no room, ahead of one that is too large
			checkLoad(t, 0, l, api.ErrTooLarge)
		}
		checkLoad(t, -1, many(1, wide), api.ErrArg)
		checkLoad(t, math.MaxInt, many(api.MaxTapes+1, wide), api.ErrArg)
		checkLoad(t, 0, many(api.MaxTapes+1, wide), api.ErrArg)
		checkLoad(t, math.MinInt, many(api.MaxTapes+1, wide), api.ErrArg)
	}
	checkLoad(t, -1, []api.Tape{{Firm: "a"}}, api.ErrArg)
	checkLoad(t, -1, many(api.MaxTapes+1, api.Tape{}), api.ErrArg)
	checkLoad(t, 0, many(api.MaxTapes+1, api.Tape{Firm: "a"}), api.ErrArg)
	for _, l := range [][]api.Tape{{{Firm: "abc"}}, {{Loose: "abc"}}, {{Firm: "a", Loose: "bc"}}, {{Firm: "a"}, {}, {Loose: "b"}, {Firm: "c"}}} {
		checkLoad(t, 0, l, api.ErrFull)
		checkLoad(t, 2, l, api.ErrFull)
		checkLoad(t, 3, l, api.OK)
		checkLoad(t, 4, l, api.OK)
	}
	all := make([]api.Tape, api.MaxTapes)
	for i := range all {
		all[i] = api.Tape{Firm: big[:i], Loose: big[i:]}
	}
	checkLoad(t, api.MaxTapes*api.MaxTape, all, api.OK)
	checkLoad(t, api.MaxTapes*api.MaxTape-1, all, api.ErrFull)
}

// refusal is a thing, and what is wrong with it, by the row of its call: what else is wrong with it counts less.
type refusal struct {
	x thing
	e api.Errno
}

// refusals are for a disk of refusing.
func refusals() []refusal {
	big := strings.Repeat("x", api.MaxTape)
	var l []refusal
	for _, tape := range []int{-1, math.MinInt, api.MaxTapes, math.MaxInt} {
		l = append(l, refusal{write(tape, ""), api.ErrArg}, refusal{write(tape, "a"), api.ErrArg}, refusal{write(tape, "abcd"), api.ErrArg}, refusal{write(tape, big), api.ErrArg}, refusal{write(tape, big+"y"), api.ErrArg})
		l = append(l, refusal{sync(tape), api.ErrArg}, refusal{wipe(tape), api.ErrArg}, refusal{read(tape), api.ErrArg})
		for _, n := range []int{-1, 0, 1, 5} {
			l = append(l, refusal{trim(tape, n), api.ErrArg})
		}
	}
	for _, n := range []int{-1, -2, math.MinInt, 5, 6, math.MaxInt} {
		l = append(l, refusal{trim(1, n), api.ErrArg})
	}
	l = append(l, refusal{trim(0, 1), api.ErrArg}, refusal{trim(0, -1), api.ErrArg})
	l = append(l, refusal{fail(-1), api.ErrArg}, refusal{fail(math.MinInt), api.ErrArg})
	l = append(l, refusal{write(0, "abcd"), api.ErrFull}, refusal{write(1, "abcd"), api.ErrFull}, refusal{write(31, big[4:]), api.ErrFull}, refusal{write(1, big[4:]), api.ErrFull}, refusal{write(31, big), api.ErrFull})
	l = append(l, refusal{write(1, big[3:]), api.ErrTooLarge}, refusal{write(1, big), api.ErrTooLarge}, refusal{write(31, big+"y"), api.ErrTooLarge}, refusal{write(0, big+big), api.ErrTooLarge})
	return l
}

// refusing is a disk with room for 3 bytes more, and 4 on tape 1.
func refusing(t *testing.T) *disk.Disk {
	t.Helper()
	return made(t, 7, write(1, "ab"), sync(1), write(1, "cd"))
}

// The table of errors, R3: what is refused has changed nothing, and isn't counted.
func TestRefused(t *testing.T) {
	for _, r := range refusals() {
		for _, left := range []int{-1, 1, 2, 5} {
			d := refusing(t)
			if left > 0 {
				do(t, d, fail(left))
			}
			was := d.Copy()
			for range 3 {
				checkDo(t, d, r.x, r.e)
			}
			if !disk.Same(was, d) {
				t.Errorf("%v: it became %s", r.x, told(d.Tapes()))
			}
			for range max(left, 0) {
				do(t, d, write(0, ""))
			}
			if left > 0 {
				checkDo(t, d, write(0, ""), api.ErrDown)
			}
		}
	}
}

// The table of errors: ErrNil is ahead of all else.
func TestRefusedOfNobody(t *testing.T) {
	for _, r := range refusals() {
		checkDo(t, nil, r.x, api.ErrNil)
	}
}

// The table of errors: ErrDown is ahead of what is wrong with a thing itself, on a disk that is down, and where it fails.
func TestRefusedDown(t *testing.T) {
	for _, r := range refusals() {
		down := ended(t, refusing(t))
		was := down.Copy()
		for range 3 {
			checkDo(t, down, r.x, api.ErrDown)
		}
		if !disk.Same(was, down) {
			t.Errorf("%v, of one that is down: it became %s", r.x, told(down.Tapes()))
		}
		d := refusing(t)
		do(t, d, fail(0))
		if !r.x.counted() { // the disk doesn't fail at it
			checkDo(t, d, r.x, r.e)
			do(t, d, read(0))
			checkDo(t, d, sync(0), api.ErrDown)
			continue
		}
		checkDo(t, d, r.x, api.ErrDown)
		if !disk.Same(was, d) {
			t.Errorf("%v, where it fails: it became %s, up %v", r.x, told(d.Tapes()), d.Up())
		}
	}
}

// The table of errors: what is right is refused by a disk that is down, but a Back.
func TestDown(t *testing.T) {
	for _, x := range []thing{
		write(0, ""), write(0, "a"), write(1, "abc"), sync(0), sync(1), trim(1, 0), trim(1, 4), trim(0, 0), wipe(0), wipe(1), read(0), read(1), fail(0), fail(1), fail(math.MaxInt),
	} {
		d := ended(t, refusing(t))
		was := d.Copy()
		checkDo(t, d, x, api.ErrDown)
		if !disk.Same(was, d) {
			t.Errorf("%v: it became %s", x, told(d.Tapes()))
		}
		do(t, d, back(2))
		checkDo(t, d, write(0, ""), api.OK)
		if !disk.Same(d, made(t, 7, write(1, "abcd"), sync(1))) {
			t.Errorf("%v, and a Back: it became %s", x, told(d.Tapes()))
		}
	}
}
