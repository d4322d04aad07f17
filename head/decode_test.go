package head_test

import (
	"slices"
	"strings"
	"testing"

	"baton/api"
)

// P9.1: a payload is read as it is, also of numbers in more bytes than must be.
func TestDecode(t *testing.T) {
	for _, h := range right() {
		l := numbers(h)
		checkDecode(t, varints(l...), h, api.OK)
		for i, n := range l {
			for count := len(varints(n)); count <= 10; count++ {
				checkDecode(t, varints(l[:i]...)+wide(n, count)+varints(l[i+1:]...), h, api.OK)
			}
		}
	}
	checkDecode(t, "\x81\x80\x80\x00\x80\x00\x80\x80\x00\x01\x82\x80\x80\x80\x80\x80\x80\x80\x80\x00", of(1), api.OK)
}

// The table of errors: cut short at every byte, and with a byte more.
func TestDecodeCut(t *testing.T) {
	r := newRow()
	l := right()
	for range 200 {
		l = append(l, r.head())
	}
	for _, h := range l {
		s := payload(h)
		for cut := range s {
			checkWrong(t, s[:cut], api.ErrShort)
		}
		for _, more := range []string{"\x00", "\x01", "\x02", "\x80", "\xFF", s} {
			checkWrong(t, s+more, api.ErrForm)
		}
	}
	checkWrong(t, "", api.ErrShort)
}

// limits are the greatest numbers that may stand in the payload of a head of three tapes.
func limits() []uint64 { return []uint64{maxRev, maxRev, 31, 31, 31, 31, 31} }

// The table of errors: each varint above its limit, too long, and not ending, whatever else is wrong behind it.
func TestDecodeVarints(t *testing.T) {
	l := numbers(api.Head{Gen: 7, Base: 5, Snap: 8, Log: []int{9, 10, 11}})
	nine := strings.Repeat("\xFF", 9)
	for i, most := range limits() {
		ahead := varints(l[:i]...)
		for _, behind := range []string{varints(l[i+1:]...), "", "\x80", nine + "\x02", "\xFF\xFF\xFF\xFF\xFF\xFF\x01", "rest"} {
			for _, n := range []uint64{most + 1, most + 2, 2 * most, 1 << 32, 1 << 33, 1<<63 - 1, 1 << 63, 1<<64 - 1} {
				if n > most {
					checkWrong(t, ahead+varints(n)+behind, api.ErrTooLarge)
					checkWrong(t, ahead+wide(n, 10)+behind, api.ErrTooLarge)
				}
			}
			checkWrong(t, ahead+nine+"\x02"+behind, api.ErrForm)
			checkWrong(t, ahead+nine+"\x80"+behind, api.ErrForm)
			checkWrong(t, ahead+strings.Repeat("\x80", 10)+behind, api.ErrForm)
			checkWrong(t, ahead+nine+"\x01"+behind, api.ErrTooLarge)
		}
		for count := range 10 {
			checkWrong(t, ahead+strings.Repeat("\x80", count), api.ErrShort)
			checkWrong(t, ahead+nine[:count], api.ErrShort)
		}
	}
}

// The table of errors: the limits themselves may stand, where what they say may be.
func TestDecodeLimits(t *testing.T) {
	checkDecode(t, varints(maxRev, maxRev, 31, 1, 30), api.Head{Gen: maxRev, Base: maxRev, Snap: 31, Log: []int{30}}, api.OK)
	checkDecode(t, varints(1, 0, 0, 1, 31), api.Head{Gen: 1, Log: []int{31}}, api.OK)
	checkWrong(t, varints(maxRev+1, 0, 0, 1, 2), api.ErrTooLarge)
	checkWrong(t, varints(1, maxRev+1, 3, 1, 2), api.ErrTooLarge)
	checkWrong(t, varints(1, 0, 32, 1, 2), api.ErrTooLarge)
	checkWrong(t, varints(1, 0, 0, 32), api.ErrTooLarge)
	checkWrong(t, varints(1, 0, 0, 1, 32), api.ErrTooLarge)
	all := slices.Concat([]uint64{1, 0, 0, 31}, slices.Repeat([]uint64{2}, 31))
	checkWrong(t, varints(all...), api.ErrForm) // 31 tapes are read, but they can't be unlike
	checkWrong(t, varints(all[:34]...), api.ErrShort)
	checkWrong(t, varints(append(all[:34:34], 32)...), api.ErrTooLarge)
}

// The table of errors: how many tapes there are, and how many follow.
func TestDecodeCount(t *testing.T) {
	tapes := []uint64{5, 6, 7, 8}
	for count := range uint64(40) {
		s := varints(append([]uint64{1, 0, 0, count}, tapes...)...)
		switch {
		case count == 4:
			checkDecode(t, s, api.Head{Gen: 1, Log: []int{5, 6, 7, 8}}, api.OK)
		case count < 4: // bytes are left
			checkWrong(t, s, api.ErrForm)
		case count < 32:
			checkWrong(t, s, api.ErrShort)
		default:
			checkWrong(t, s, api.ErrTooLarge)
		}
	}
	checkWrong(t, varints(1, 0, 0, 0), api.ErrForm)
	checkWrong(t, varints(1, 0, 0, 1), api.ErrShort)
}

// The table of errors: a payload that reads well, and may not be; what is wrong with a varint comes ahead of that, wherever it stands.
func TestDecodeMayNot(t *testing.T) {
	count := 0
	for _, h := range wrong() {
		l := numbers(h)
		if _, e := plainDecode(varints(l...)); e != api.ErrForm {
			continue // it has a number that is above its limit
		}
		count++
		s := varints(l...)
		checkWrong(t, s, api.ErrForm)
		checkWrong(t, s+"\x00", api.ErrForm)
		last := varints(l[:len(l)-1]...)
		checkWrong(t, last, api.ErrShort)
		checkWrong(t, last+"\x80", api.ErrShort)
		checkWrong(t, last+"\x20", api.ErrTooLarge)
	}
	if count < 15 {
		t.Errorf("only %d of the heads were read", count)
	}
	checkWrong(t, varints(0, 1, 1, 2, 1, 1), api.ErrForm)
	checkWrong(t, varints(0, 1, 1, 2, 1, 32), api.ErrTooLarge)
	checkWrong(t, varints(0, maxRev+1), api.ErrTooLarge)
	checkWrong(t, varints(0), api.ErrShort)
}

// The table of errors: any bytes, held against a plain reader.
func TestDecodeAny(t *testing.T) {
	r := newRow()
	var counts [64]int
	for round := range 60000 {
		s := payload(r.any())
		switch round % 6 {
		case 0:
			s = r.text(12)
		case 1:
			s = s[:r.below(len(s)+1)]
		case 2:
			at := r.below(len(s))
			s = s[:at] + string([]byte{byte(r.next())}) + s[at+1:]
		case 3:
			at := r.below(len(s) + 1)
			s = s[:at] + r.text(11) + s[at:]
		case 4:
			l := make([]uint64, r.below(8))
			for i := range l {
				l[i] = uint64(r.below(5))
			}
			s = varints(l...)
		}
		h, e := plainDecode(s)
		checkDecode(t, s, h, e)
		counts[e]++
	}
	for _, e := range []api.Errno{api.OK, api.ErrForm, api.ErrShort, api.ErrTooLarge} {
		if counts[e] < 1000 {
			t.Errorf("error %d: only %d times", e, counts[e])
		}
	}
}
