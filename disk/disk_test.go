package disk_test

import (
	"math"
	"slices"
	"strings"
	"testing"

	"baton/api"
	"baton/disk"
)

// The chapter's examples.
func TestExamples(t *testing.T) {
	d := made(t, 10, write(2, "abcd"), sync(2), write(2, "efg"))
	checkRead(t, d, 2, "abcdefg")
	kept := d.Copy()
	do(t, kept, back(2))
	checkRead(t, kept, 2, "abcdef")
	do(t, d, back())
	checkRead(t, d, 2, "abcd")
	checkDo(t, d, write(2, "hijklmn"), api.ErrFull)
	checkDo(t, kept, write(2, "hijklmn"), api.ErrFull)
	do(t, d, fail(1), sync(2))
	checkDo(t, d, write(2, "xyz"), api.ErrDown)
	checkTapes(t, d, tapes(map[int]api.Tape{2: {Firm: "abcd", Loose: "xyz"}}))
	if d.Up() {
		t.Error("it is up")
	}
}

// P7.1: a disk of any capacity from 0 on, whose tapes have no bytes.
func TestNew(t *testing.T) {
	for _, capacity := range []int{0, 1, 2, api.MaxTape, api.MaxTapes*api.MaxTape + 1, math.MaxInt - 1, math.MaxInt} {
		d := made(t, capacity)
		checkAll(t, d, newPlain(capacity))
		if loaded, e := disk.Load(capacity, nil); e != api.OK || !disk.Same(d, loaded) {
			t.Errorf("Load(%d, nil): %d, not the same", capacity, e)
		}
		checkDo(t, d, write(3, ""), api.OK)
		if capacity == 0 {
			checkDo(t, d, write(3, "a"), api.ErrFull)
			continue
		}
		checkDo(t, d, write(3, "a"), api.OK)
		checkRead(t, d, 3, "a")
	}
	checkDo(t, made(t, math.MaxInt), write(0, strings.Repeat("x", api.MaxTape)), api.OK)
}

// P7.1: a disk with these tapes, from tape 0 on.
func TestLoad(t *testing.T) {
	full := make([]api.Tape, api.MaxTapes)
	for i := range full {
		full[i] = api.Tape{Firm: strings.Repeat("f", i), Loose: strings.Repeat("l", (i*5)%7)}
	}
	for _, l := range [][]api.Tape{
		nil, {}, {{}}, {{Firm: "abc"}}, {{Loose: "abc"}}, {{}, {Firm: "abc", Loose: "de"}, {}, {Loose: "\x00\xFF"}}, make([]api.Tape, api.MaxTapes), full,
		{{Firm: strings.Repeat("x", api.MaxTape)}}, {{}, {Loose: strings.Repeat("x", api.MaxTape)}}, {{Firm: strings.Repeat("x", api.MaxTape-1), Loose: "y"}, {Firm: "x", Loose: strings.Repeat("y", api.MaxTape-1)}},
	} {
		used := 0
		for _, x := range l {
			used += len(x.Firm) + len(x.Loose)
		}
		for _, capacity := range []int{used, used + 1, math.MaxInt} {
			was := slices.Clone(l)
			d, e := disk.Load(capacity, l)
			if e != api.OK || d == nil {
				t.Errorf("Load(%d, %s): %d", capacity, told(l), e)
				continue
			}
			checkTapes(t, d, append(slices.Clone(l), make([]api.Tape, api.MaxTapes-len(l))...))
			if !d.Up() || d.Capacity() != capacity || !slices.Equal(was, l) {
				t.Errorf("Load(%d, %s): up %v, capacity %d, handed in %s", capacity, told(was), d.Up(), d.Capacity(), told(l))
			}
			for i := range api.MaxTapes {
				do(t, d, sync(i), trim(i, 0)) // it is not to fail
			}
		}
		if d, e := disk.Load(used-1, l); d != nil || used > 0 && e != api.ErrFull || used == 0 && e != api.ErrArg {
			t.Errorf("Load(%d, %s): %d", used-1, told(l), e)
		}
	}
}

// P7.1, R1: what was handed in may be written over: the disk stays.
func TestLoadApart(t *testing.T) {
	l := []api.Tape{{Firm: "a", Loose: "b"}, {Firm: "c"}}
	d, _ := disk.Load(10, l)
	l[0], l[1] = api.Tape{Loose: "zzz"}, api.Tape{}
	checkTapes(t, d, tapes(map[int]api.Tape{0: {Firm: "a", Loose: "b"}, 1: {Firm: "c"}}))
}

// P7.2: more bytes, loose, behind those that are there, firm or loose.
func TestWrite(t *testing.T) {
	for _, tape := range []int{0, 1, 7, api.MaxTapes - 1} {
		d := made(t, 20, write(tape, "ab"))
		checkTapes(t, d, tapes(map[int]api.Tape{tape: {Loose: "ab"}}))
		do(t, d, write(tape, ""), write(tape, "\x00\xFF"))
		checkTapes(t, d, tapes(map[int]api.Tape{tape: {Loose: "ab\x00\xFF"}}))
		do(t, d, sync(tape), write(tape, "c"), write(tape, "de"))
		checkTapes(t, d, tapes(map[int]api.Tape{tape: {Firm: "ab\x00\xFF", Loose: "cde"}}))
		checkRead(t, d, tape, "ab\x00\xFFcde")
	}
}

// P7.2: as many bytes as there is room for, and as a tape may have; not one more.
func TestWriteMost(t *testing.T) {
	big := strings.Repeat("x", api.MaxTape)
	d := made(t, 10, write(0, "abc"), write(1, "1234567"))
	checkDo(t, d, write(1, "8"), api.ErrFull)
	do(t, d, write(1, ""), write(31, ""), trim(1, 5))
	checkDo(t, d, write(2, "xyz"), api.ErrFull)
	do(t, d, write(2, "xy"))
	checkTapes(t, d, tapes(map[int]api.Tape{0: {Loose: "abc"}, 1: {Firm: "12345"}, 2: {Loose: "xy"}}))

	d = made(t, math.MaxInt)
	checkDo(t, d, write(4, big+"y"), api.ErrTooLarge)
	do(t, d, write(4, big[1:]))
	checkDo(t, d, write(4, "yz"), api.ErrTooLarge)
	do(t, d, write(4, "y"))
	checkDo(t, d, write(4, "z"), api.ErrTooLarge)
	do(t, d, write(4, ""), sync(4))
	checkDo(t, d, write(4, "z"), api.ErrTooLarge)
	do(t, d, write(5, big))
	checkTapes(t, d, tapes(map[int]api.Tape{4: {Firm: big[1:] + "y"}, 5: {Loose: big}}))

	d = made(t, api.MaxTape, write(4, big))
	checkDo(t, d, write(5, "z"), api.ErrFull)
}

// P7.2: all its bytes are firm, what was loose behind what was firm.
func TestSync(t *testing.T) {
	d := made(t, 20, sync(3))
	checkTapes(t, d, tapes(nil))
	do(t, d, write(3, "ab"), sync(3))
	checkTapes(t, d, tapes(map[int]api.Tape{3: {Firm: "ab"}}))
	do(t, d, sync(3), write(3, "c"), write(3, "d"), write(4, "e"), sync(3))
	checkTapes(t, d, tapes(map[int]api.Tape{3: {Firm: "abcd"}, 4: {Loose: "e"}}))
}

// P7.2: the tape is its first n bytes, all firm, be they firm or loose till then.
func TestTrim(t *testing.T) {
	const all = "firmloose"
	for n := -2; n <= len(all)+2; n++ {
		d := made(t, 20, write(0, "firm"), sync(0), write(0, "loose"), write(1, "x"))
		if n < 0 || n > len(all) {
			checkDo(t, d, trim(0, n), api.ErrArg)
			checkTapes(t, d, tapes(map[int]api.Tape{0: {Firm: "firm", Loose: "loose"}, 1: {Loose: "x"}}))
			continue
		}
		do(t, d, trim(0, n))
		checkTapes(t, d, tapes(map[int]api.Tape{0: {Firm: all[:n]}, 1: {Loose: "x"}}))
		do(t, d, write(0, "more"))
		checkTapes(t, d, tapes(map[int]api.Tape{0: {Firm: all[:n], Loose: "more"}, 1: {Loose: "x"}}))
	}
	d := made(t, 20, trim(9, 0))
	checkDo(t, d, trim(9, 1), api.ErrArg)
	checkDo(t, d, trim(9, math.MaxInt), api.ErrArg)
	checkDo(t, d, trim(9, math.MinInt), api.ErrArg)
	checkTapes(t, d, tapes(nil))
}

// P7.2: the tape has no bytes, at once, and for good.
func TestWipe(t *testing.T) {
	d := made(t, 20, wipe(5), write(5, "ab"), sync(5), write(5, "cd"), write(6, "x"), wipe(5))
	want := tapes(map[int]api.Tape{6: {Loose: "x"}})
	checkTapes(t, d, want)
	checkRead(t, d, 5, "")
	do(t, d, back(1))
	checkTapes(t, d, tapes(map[int]api.Tape{6: {Firm: "x"}}))
	do(t, d, write(5, "y"))
	checkTapes(t, d, tapes(map[int]api.Tape{5: {Loose: "y"}, 6: {Firm: "x"}}))
}

// P7.2: tapes from 0 below MaxTapes are there, and no others.
func TestWhichTapes(t *testing.T) {
	for _, tape := range []int{0, 1, api.MaxTapes - 2, api.MaxTapes - 1} {
		d := made(t, 20, write(tape, "ab"), sync(tape), trim(tape, 1), read(tape))
		checkRead(t, d, tape, "a")
		do(t, d, wipe(tape))
		checkRead(t, d, tape, "")
	}
	for _, tape := range []int{-1, -2, math.MinInt, math.MinInt + 1, api.MaxTapes, api.MaxTapes + 1, math.MaxInt} {
		d := made(t, 20, write(0, "ab"), write(api.MaxTapes-1, "cd"))
		was := d.Copy()
		for _, x := range []thing{write(tape, ""), write(tape, "ab"), sync(tape), trim(tape, 0), wipe(tape), read(tape)} {
			checkDo(t, d, x, api.ErrArg)
		}
		if !disk.Same(was, d) {
			t.Errorf("tape %d: now %s", tape, told(d.Tapes()))
		}
	}
}

// P7.2: so many things on it fails; asked twice, it is the later number that counts.
func TestFail(t *testing.T) {
	for _, n := range []int{0, 1, 2, 3, 10} {
		for _, earlier := range []int{-1, 0, 1, 5, math.MaxInt} {
			d := made(t, 20, write(1, "abc"))
			if earlier >= 0 {
				do(t, d, fail(earlier))
			}
			do(t, d, fail(n))
			for range n {
				do(t, d, read(1), sync(1))
				if !d.Up() {
					t.Errorf("Fail(%d): down too soon", n)
				}
			}
			checkRead(t, d, 1, "abc") // it fails when something is to be done, no sooner
			if !d.Up() {
				t.Errorf("Fail(%d): down, though nothing more was done", n)
			}
			checkDo(t, d, wipe(1), api.ErrDown)
			if d.Up() {
				t.Errorf("Fail(%d): up behind %d things, and one", n, n)
			}
			if got := d.Tapes()[1].Firm + d.Tapes()[1].Loose; got != "abc" {
				t.Errorf("Fail(%d): %q", n, got)
			}
		}
	}
	d := made(t, 20, fail(2), sync(0), fail(2), sync(0), sync(0))
	checkDo(t, d, sync(0), api.ErrDown)
	d = made(t, 20, fail(math.MaxInt))
	for range 1000 {
		do(t, d, sync(0))
	}
}

// P7.2, P7.5: a number below 0 is refused, and changes nothing.
func TestFailBelow(t *testing.T) {
	for _, n := range []int{-1, -2, math.MinInt} {
		d := made(t, 20)
		checkDo(t, d, fail(n), api.ErrArg)
		do(t, d, sync(0), sync(0))
		do(t, d, fail(1))
		checkDo(t, d, fail(n), api.ErrArg)
		do(t, d, sync(0))
		checkDo(t, d, fail(n), api.ErrArg)
		checkDo(t, d, sync(0), api.ErrDown)
	}
}

// P7.2, S3: a Write at which the disk fails leaves its bytes, loose, if it would have been OK; nothing else leaves anything.
func TestTorn(t *testing.T) {
	big := strings.Repeat("x", api.MaxTape)
	for _, c := range []struct {
		x     thing
		loose string // what tape 1 has behind it
	}{
		{write(1, "efgh"), "cdefgh"}, {write(1, "e"), "cde"}, {write(1, ""), "cd"},
		{write(1, "efghi"), "cd"}, {write(1, big), "cd"}, {write(-1, "e"), "cd"}, {write(api.MaxTapes, "e"), "cd"},
		{sync(1), "cd"}, {trim(1, 0), "cd"}, {trim(1, 2), "cd"}, {trim(1, 3), "cd"}, {trim(1, 4), "cd"}, {trim(1, 5), "cd"}, {wipe(1), "cd"}, {wipe(-1), "cd"}, {sync(32), "cd"},
	} {
		for n := range 3 {
			d := made(t, 8, write(1, "ab"), sync(1), write(1, "cd"), fail(n))
			for range n {
				do(t, d, sync(0))
			}
			checkDo(t, d, c.x, api.ErrDown)
			checkTapes(t, d, tapes(map[int]api.Tape{1: {Firm: "ab", Loose: c.loose}}))
			if d.Up() {
				t.Errorf("%v: it is up", c.x)
			}
			checkDo(t, d, write(1, "more"), api.ErrDown) // it is down: no bytes of this one
			checkTapes(t, d, tapes(map[int]api.Tape{1: {Firm: "ab", Loose: c.loose}}))
			for keep := range len(c.loose) + 1 {
				kept := d.Copy()
				do(t, kept, back(keep))
				checkTapes(t, kept, tapes(map[int]api.Tape{1: {Firm: "ab" + c.loose[:keep]}}))
			}
			do(t, d, back(len(c.loose)+1)) // counted round
			checkTapes(t, d, tapes(map[int]api.Tape{1: {Firm: "ab"}}))
		}
	}
}

// P7.2, S3: as many bytes stay as a number's remainder says, taken as one of 64 bits without a sign.
func TestBackNumbers(t *testing.T) {
	for keep, stay := range map[int][4]int{ // of 2, 3, 4, 6 loose bytes
		0: {0, 0, 0, 0}, 1: {1, 1, 1, 1}, 2: {2, 2, 2, 2}, 3: {0, 3, 3, 3}, 4: {1, 0, 4, 4}, 5: {2, 1, 0, 5}, 6: {0, 2, 1, 6}, 7: {1, 3, 2, 0}, 8: {2, 0, 3, 1},
		-1: {0, 3, 0, 1}, -2: {2, 2, 4, 0}, math.MaxInt64: {1, 3, 2, 0}, math.MinInt64: {2, 0, 3, 1},
	} {
		for i, loose := range []string{"ab", "abc", "abcd", "abcdef"} {
			d := made(t, 20, write(9, "firm"), sync(9), write(9, loose), back(keep))
			checkTapes(t, d, tapes(map[int]api.Tape{9: {Firm: "firm" + loose[:stay[i]]}}))
		}
	}
}

// P7.2, S3: the numbers go to the tapes that have loose bytes, by rising numbers; behind the last number it is 0.
func TestBackTurns(t *testing.T) {
	for _, c := range []struct {
		keep []int
		want map[int]api.Tape
	}{
		{nil, map[int]api.Tape{1: {Firm: "b"}, 2: {Firm: "cc"}}},
		{[]int{}, map[int]api.Tape{1: {Firm: "b"}, 2: {Firm: "cc"}}},
		{[]int{1}, map[int]api.Tape{0: {Firm: "A"}, 1: {Firm: "b"}, 2: {Firm: "cc"}}},
		{[]int{0, 1}, map[int]api.Tape{1: {Firm: "b"}, 2: {Firm: "ccC"}}},
		{[]int{2, 3, 1}, map[int]api.Tape{0: {Firm: "AA"}, 1: {Firm: "b"}, 2: {Firm: "ccCCC"}, 31: {Firm: "D"}}},
		{[]int{3, 4, 2, 7, 8}, map[int]api.Tape{1: {Firm: "b"}, 2: {Firm: "cc"}}},
		{[]int{-1, 1, 5, 7}, map[int]api.Tape{1: {Firm: "b"}, 2: {Firm: "ccC"}, 31: {Firm: "D"}}},
	} {
		d := made(t, 20, write(31, "D"), write(2, "cc"), sync(2), write(2, "CCC"), write(1, "b"), sync(1), write(0, "AA"))
		was := slices.Clone(c.keep)
		for _, up := range []bool{true, false} {
			d := d.Copy()
			if !up {
				ended(t, d)
			}
			do(t, d, back(c.keep...))
			checkTapes(t, d, tapes(c.want))
			if !d.Up() || !slices.Equal(was, c.keep) {
				t.Errorf("Back(%v): up %v, handed in %v", was, d.Up(), c.keep)
			}
		}
	}
}

// P7.2: behind a Back none is to fail, whether it failed, was to fail, or was not.
func TestBackUp(t *testing.T) {
	for _, d := range []*disk.Disk{
		made(t, 20, write(4, "ab")), made(t, 20, write(4, "ab"), fail(0)), made(t, 20, write(4, "ab"), fail(3)), ended(t, made(t, 20, write(4, "ab"))),
	} {
		do(t, d, back(1))
		if !d.Up() || !disk.Same(d, made(t, 20, write(4, "a"), sync(4))) {
			t.Errorf("up %v, %s", d.Up(), told(d.Tapes()))
		}
		do(t, d, back(), sync(4), write(4, "b"), sync(4), sync(4), write(4, "c"))
		checkTapes(t, d, tapes(map[int]api.Tape{4: {Firm: "ab", Loose: "c"}}))
	}
}
