package head_test

import (
	"math"
	"slices"
	"testing"

	"baton/api"
	"baton/disk"
	"baton/head"
)

// The chapter's examples.
func TestExamples(t *testing.T) {
	first := api.Head{Gen: 1, Log: []int{2}}
	checkEncode(t, first, "\x01\x00\x00\x01\x02", api.OK)
	checkDecode(t, "\x01\x00\x00\x01\x02", first, api.OK)
	checkSize(t, first, 14)
	d, e := disk.New(28)
	if e != api.OK {
		t.Fatal(e)
	}
	for gen := int64(1); gen < 20; gen++ {
		checkPut(t, d, of(gen), api.OK)
		checkLoad(t, d, of(gen), int(gen+1)%2, true, api.OK)
	}
	torn := firm(t, whole(of(3)), whole(of(4))[:13])
	checkLoad(t, torn, of(3), 0, true, api.OK)
}

// P9.1: each part at its ends, and beyond them.
func TestMay(t *testing.T) {
	for _, h := range right() {
		checkMay(t, h, true)
	}
	for _, h := range wrong() {
		checkMay(t, h, false)
	}
	for _, gen := range []int64{1, 2, maxRev - 1, maxRev} {
		checkMay(t, of(gen), true)
		checkMay(t, api.Head{Gen: gen}, false)
	}
	for _, gen := range []int64{0, -1, -maxRev, math.MinInt64 + 1, math.MinInt64, maxRev + 1, maxRev + 2, 2 * maxRev, math.MaxInt64 - 1, math.MaxInt64} {
		checkMay(t, of(gen), false)
	}
	for snap := -3; snap < 40; snap++ {
		for _, base := range []int64{math.MinInt64, -1, 0, 1, 2, maxRev - 1, maxRev, maxRev + 1, math.MaxInt64} {
			some := snap >= 2 && snap <= 31 && snap != 4 && base >= 0 && base <= maxRev
			none := snap == 0 && base == 0
			checkMay(t, api.Head{Gen: 1, Base: base, Snap: snap, Log: []int{4}}, some || none)
		}
	}
}

// P9.1: each log of two tapes, with each snapshot's tape.
func TestMayLog(t *testing.T) {
	for a := -2; a < 35; a++ {
		checkMay(t, api.Head{Gen: 1, Log: []int{a}}, a >= 2 && a <= 31)
		for b := -2; b < 35; b++ {
			two := a >= 2 && a <= 31 && b >= 2 && b <= 31 && a != b
			checkMay(t, api.Head{Gen: 1, Log: []int{a, b}}, two)
			for snap := -1; snap < 34; snap++ {
				three := two && snap >= 2 && snap <= 31 && snap != a && snap != b
				checkMay(t, api.Head{Gen: 1, Snap: snap, Log: []int{a, b}}, three || two && snap == 0)
			}
		}
	}
}

// P9.1: any heads.
func TestMayAny(t *testing.T) {
	r := newRow()
	var count [2]int
	for range 20000 {
		h := r.any()
		may := plainMay(h)
		checkMay(t, h, may)
		if may {
			count[1]++
		} else {
			count[0]++
		}
	}
	if count[0] < 1000 || count[1] < 1000 {
		t.Errorf("may not, may: %d", count)
	}
}

// P9.1: heads that differ in one part; a Log of nothing and none are the same.
func TestSame(t *testing.T) {
	l := []api.Head{
		{}, {Gen: 1}, {Gen: 2}, {Gen: -1}, {Base: 1}, {Base: 2}, {Snap: 1}, {Snap: 2}, {Snap: -1}, {Gen: 1, Base: 1}, {Gen: 1, Snap: 1},
		{Log: []int{0}}, {Log: []int{2}}, {Log: []int{3}}, {Log: []int{0, 0}}, {Log: []int{2, 3}}, {Log: []int{3, 2}}, {Log: []int{2, 3, 4}},
		{Gen: 1, Log: []int{2}}, {Gen: 2, Log: []int{2}}, {Gen: 1, Base: 5, Snap: 3, Log: []int{2}}, {Gen: 1, Base: 6, Snap: 3, Log: []int{2}}, {Gen: 1, Base: 5, Snap: 4, Log: []int{2}}, {Gen: 1, Base: 5, Snap: 3, Log: []int{4}}, {Gen: 1, Base: 5, Snap: 3, Log: []int{2, 4}},
		{Gen: 2, Base: 1}, {Gen: math.MaxInt64}, {Gen: math.MinInt64}, {Base: math.MaxInt64}, {Base: math.MinInt64}, {Snap: math.MaxInt}, {Snap: math.MinInt}, {Gen: 1 << 32}, {Base: 1 << 32}, {Log: []int{math.MaxInt}}, {Log: make([]int, 100000)}, {Log: make([]int, 100001)},
	}
	for i, a := range l {
		for j, b := range l {
			b.Log = slices.Clone(b.Log)
			checkSame(t, a, b, i == j)
		}
	}
	checkSame(t, api.Head{Log: []int{}}, api.Head{}, true)
	checkSame(t, api.Head{Gen: 5, Log: make([]int, 0, 4)}, api.Head{Gen: 5}, true)
	checkSame(t, api.Head{Log: []int{}}, api.Head{Gen: 1}, false)
	checkSame(t, api.Head{Log: []int{}}, api.Head{Log: []int{0}}, false)
}

// P9.1: the payload's bytes.
func TestEncode(t *testing.T) {
	checkEncode(t, api.Head{Gen: 300, Base: 129, Snap: 31, Log: []int{9, 2, 30}}, "\xAC\x02\x81\x01\x1F\x03\x09\x02\x1E", api.OK)
	checkEncode(t, api.Head{Gen: maxRev, Base: maxRev, Snap: 2, Log: []int{3}}, "\x80\x80\x80\x80\x80\x20\x80\x80\x80\x80\x80\x20\x02\x01\x03", api.OK)
	checkEncode(t, of(maxRev), "\x80\x80\x80\x80\x80\x20\x00\x00\x01\x02", api.OK)
	checkEncode(t, of(maxRev+1), "", api.ErrForm)
	for _, h := range right() {
		checkEncode(t, h, payload(h), api.OK)
	}
	r := newRow()
	for range 5000 {
		h := r.head()
		checkEncode(t, h, payload(h), api.OK)
	}
}

// The table of errors: Encode.
func TestEncodeWrong(t *testing.T) {
	for _, h := range wrong() {
		checkEncode(t, h, "", api.ErrForm)
	}
	r := newRow()
	for range 5000 {
		if h := r.any(); !plainMay(h) {
			checkEncode(t, h, "", api.ErrForm)
		}
	}
}

// P9.1: how many bytes the frame has.
func TestSize(t *testing.T) {
	checkSize(t, api.Head{Gen: maxRev, Base: maxRev, Snap: 3, Log: []int{2}}, 24)
	checkSize(t, of(127), 14)
	checkSize(t, of(128), 15)
	checkSize(t, of(maxRev), 19)
	checkSize(t, of(maxRev+1), 0)
	checkSize(t, api.Head{Gen: 1, Log: allTapes()}, 43)
	for _, h := range right() {
		checkSize(t, h, len(whole(h)))
	}
	for _, h := range wrong() {
		checkSize(t, h, 0)
	}
	r := newRow()
	for range 5000 {
		h := r.any()
		want := 0
		if plainMay(h) {
			want = len(whole(h))
		}
		checkSize(t, h, want)
	}
}

func checkUses(t *testing.T, h api.Head, tapes ...int) {
	t.Helper()
	for _, x := range append([]int{math.MinInt, math.MaxInt, -1 << 32, 1 << 32}, tapes...) {
		if want := slices.Contains(tapes, x); head.Uses(h, x) != want {
			t.Errorf("Uses(%s, %d) = %v", show(h), x, !want)
		}
	}
	for x := -40; x < 80; x++ {
		if want := slices.Contains(tapes, x); head.Uses(h, x) != want {
			t.Errorf("Uses(%s, %d) = %v", show(h), x, !want)
		}
	}
}

// P9.3: the snapshot's tape, if there is one, and the log's.
func TestUses(t *testing.T) {
	checkUses(t, of(1), 2)
	checkUses(t, api.Head{Gen: 1, Snap: 3, Log: []int{2, 4}}, 3, 2, 4)
	checkUses(t, api.Head{Gen: 1, Snap: 31, Log: []int{2}}, 31, 2)
	checkUses(t, api.Head{Gen: 1, Log: allTapes()}, allTapes()...)
	checkUses(t, api.Head{Gen: 1, Snap: 2, Log: allTapes()[1:]}, allTapes()...)
	checkUses(t, api.Head{})
	checkUses(t, api.Head{Log: []int{}})
	checkUses(t, api.Head{Gen: 1, Base: 9})
	checkUses(t, api.Head{Snap: 5}, 5)
	checkUses(t, api.Head{Snap: 5, Log: []int{5, 6, 6}}, 5, 6)
	checkUses(t, api.Head{Gen: -1, Base: -1, Log: []int{31, 2}}, 31, 2)
}

// P9.3: the tapes from 2 on that are not used, rising.
func TestFree(t *testing.T) {
	all := allTapes()
	checkFree(t, of(1), all[1:])
	checkFree(t, api.Head{Gen: 1, Log: []int{31}}, all[:29])
	checkFree(t, api.Head{Gen: 1, Snap: 3, Log: []int{2, 4}}, all[3:])
	checkFree(t, api.Head{Gen: 1, Snap: 31, Log: []int{30, 2}}, all[1:28])
	checkFree(t, api.Head{Gen: 1, Log: all}, nil)
	checkFree(t, api.Head{Gen: 1, Log: all[1:]}, []int{2})
	checkFree(t, api.Head{Gen: 1, Snap: 31, Log: all[:29]}, nil)
	checkFree(t, api.Head{Gen: 1, Snap: 9, Log: append(all[10:], 5)}, []int{2, 3, 4, 6, 7, 8, 10, 11})
	for _, h := range []api.Head{{}, {Log: []int{}}, {Snap: 1}, {Snap: -1}, {Snap: maxTapes}, {Log: []int{0, 1, -1, maxTapes, math.MaxInt}}} {
		checkFree(t, h, allTapes())
	}
	checkFree(t, api.Head{Snap: 5, Log: []int{5, 6, 6}}, append([]int{2, 3, 4}, allTapes()[5:]...))
}
