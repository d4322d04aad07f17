package frame_test

import (
	"math"
	"strings"
	"testing"

	"baton/api"
	"baton/frame"
)

// The table of errors, Make: the kind ahead of the size.
func TestMakeErrors(t *testing.T) {
	for kind := range 256 {
		may := 1 <= kind && kind <= 3
		for _, payload := range []string{"", "a", full(262144), full(262145), full(300000)} {
			switch {
			case !may:
				checkMake(t, uint8(kind), payload, "", api.ErrArg)
			case len(payload) > 262144:
				checkMake(t, uint8(kind), payload, "", api.ErrTooLarge)
			}
		}
	}
}

// The table of errors, Read: a place that is none, whatever the bytes are.
func TestReadPlaces(t *testing.T) {
	for _, s := range append(noFrame(), plain(1, "one"), plain(1, "one")[:7], laid(262145, 0, 0, "")) {
		for _, at := range []int{math.MinInt, math.MinInt + 9, -len(s) - 1, -9, -1, len(s) + 1, len(s) + 9, math.MaxInt - 9, math.MaxInt - 8, math.MaxInt} {
			checkWrong(t, s, at, api.ErrArg)
		}
		checkWrong(t, s, len(s), api.ErrShort)
	}
}

// The table of errors, Read: fewer bytes are left than each frame has, whatever they say.
func TestReadShort(t *testing.T) {
	for _, fill := range []string{"\x00", "\x01", "\x7F", "\x80", "\xFF"} {
		for left := range 9 {
			s := strings.Repeat(fill, left)
			checkWrong(t, s, 0, api.ErrShort)
			checkWrong(t, "ahead"+s, 5, api.ErrShort)
			checkWrong(t, plain(1, "")+s, 9, api.ErrShort)
		}
	}
	checkWrong(t, strings.Repeat("\x00", 9), 0, api.ErrSum)
	checkWrong(t, strings.Repeat("\xFF", 9), 0, api.ErrTooLarge)
	s := plain(3, "")
	for left := range 9 {
		checkWrong(t, s[:left], 0, api.ErrShort)
	}
	checkRead(t, s, 0, frame.Frame{Kind: 3}, 9, api.OK)
}

// The table of errors, Read: a length above MaxFrame, also with fewer bytes than that, a wrong checksum, a wrong kind, or all of it right but that.
func TestReadTooLarge(t *testing.T) {
	for _, length := range []uint32{262145, 262146, 262144 + 256, 1 << 19, 1 << 20, 1 << 24, math.MaxInt32 - 9, math.MaxInt32 - 8, math.MaxInt32, math.MaxInt32 + 1, math.MaxUint32 - 9, math.MaxUint32 - 8, math.MaxUint32} {
		for _, payload := range []string{"", "a", full(1000), full(262144)} {
			for _, kind := range []uint8{0, 1, 3, 4, 255} {
				checkWrong(t, laid(length, checksum(kind, payload), kind, payload), 0, api.ErrTooLarge)
				checkWrong(t, "ahead"+laid(length, 0, kind, payload), 5, api.ErrTooLarge)
			}
		}
		checkWrong(t, laid(length, 0, 0, "")[:8], 0, api.ErrShort)
	}
	for _, n := range []int{262145, 262146, 300000} {
		checkWrong(t, plain(1, full(n)), 0, api.ErrTooLarge)
		checkWrong(t, plain(4, full(n)), 0, api.ErrTooLarge)
	}
}

// The table of errors, Read: fewer bytes than the length follow, also with a checksum that is not right of what is there, or that is, and with a wrong kind.
func TestReadPayloadShort(t *testing.T) {
	for _, payload := range []string{"", "a", "payload", full(1000)} {
		for _, kind := range []uint8{0, 1, 2, 3, 4, 255} {
			for _, more := range []int{1, 2, 9, 256, 65536, 262144 - len(payload)} {
				length := uint32(len(payload) + more)
				checkWrong(t, laid(length, checksum(kind, payload), kind, payload), 0, api.ErrShort)
				checkWrong(t, plain(1, "ahead")+laid(length, 0, kind, payload), 14, api.ErrShort)
			}
		}
	}
	largest := plain(1, full(262144))
	checkWrong(t, largest[:len(largest)-1], 0, api.ErrShort)
	checkWrong(t, "ahead"+largest[:len(largest)-1], 5, api.ErrShort)
}

// The table of errors, Read: a checksum that is not right, whichever bit of it, or of what it stands for, is another one; the kind may be wrong, too.
func TestReadSum(t *testing.T) {
	for _, payload := range []string{"", "a", "payload"} {
		for _, kind := range []uint8{0, 1, 2, 3, 4, 255} {
			right := checksum(kind, payload)
			for bit := range 32 {
				checkWrong(t, laid(uint32(len(payload)), right^1<<bit, kind, payload), 0, api.ErrSum)
			}
			plainOne := (right-0xA282EAD8)<<15 | (right-0xA282EAD8)>>17
			checkWrong(t, laid(uint32(len(payload)), plainOne, kind, payload), 0, api.ErrSum)
			for bit := range 8 {
				checkWrong(t, laid(uint32(len(payload)), right, kind^1<<bit, payload), 0, api.ErrSum)
				for at := range payload {
					checkWrong(t, laid(uint32(len(payload)), right, kind, bent(payload, at, 1<<bit)), 0, api.ErrSum)
				}
			}
		}
	}
	checkWrong(t, laid(7, checksum(1, "other"), 1, "payload"), 0, api.ErrSum)
	checkWrong(t, laid(0, 0, 1, ""), 0, api.ErrSum)
}

// The table of errors, Read: a kind that is none, of a right checksum.
func TestReadForm(t *testing.T) {
	for kind := range 256 {
		if 1 <= kind && kind <= 3 {
			continue
		}
		for _, payload := range []string{"", "a", "payload"} {
			checkWrong(t, plain(uint8(kind), payload), 0, api.ErrForm)
			checkWrong(t, "ahead"+plain(uint8(kind), payload)+"behind", 5, api.ErrForm)
		}
	}
	checkWrong(t, plain(4, full(262144)), 0, api.ErrForm)
}

// R1, R2: of any bytes, from any place, the error is the one that the row names first.
func TestReadAnyBytes(t *testing.T) {
	r := newRow()
	count := map[api.Errno]int{}
	for range 2000 {
		s := r.mess(40)
		for _, at := range places(s) {
			f, next, e := plainRead(s, at)
			checkRead(t, s, at, f, next, e)
			count[e]++
		}
	}
	for _, e := range []api.Errno{api.OK, api.ErrArg, api.ErrShort, api.ErrTooLarge, api.ErrSum, api.ErrForm} {
		if count[e] < 50 {
			t.Errorf("%d: only %d times", e, count[e])
		}
	}
}
