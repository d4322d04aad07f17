package frame_test

import (
	"fmt"
	"math"
	"slices"
	"testing"

	"baton/api"
	"baton/frame"
)

// The numbers that the chapter gives.
func TestConstants(t *testing.T) {
	kinds := []uint8{frame.Record, frame.Snapshot, frame.Head}
	if !slices.Equal(kinds, []uint8{1, 2, 3}) || frame.Over != 9 {
		t.Errorf("%d, Over %d", kinds, frame.Over)
	}
}

// The chapter's examples.
func TestExamples(t *testing.T) {
	empty := "\x00\x00\x00\x00\x05\x2B\x28\x43\x01"
	checkMake(t, frame.Record, "", empty, api.OK)
	checkRead(t, empty, 0, frame.Frame{Kind: frame.Record}, 9, api.OK)
	checkWrong(t, empty[:8], 0, api.ErrShort)
	checkMake(t, 4, "", "", api.ErrArg)
	two := empty + plain(2, "two")
	checkScan(t, two+"\x00", 0, []frame.Frame{{Kind: 1}, {Kind: 2, Payload: "two", At: 9}}, len(two))
}

// P8.1: a frame's size, at both ends, and beyond them.
func TestSize(t *testing.T) {
	cases := []struct{ n, want int }{
		{math.MinInt, 0}, {math.MinInt + 1, 0}, {-262144, 0}, {-10, 0}, {-9, 0}, {-2, 0}, {-1, 0},
		{0, 9}, {1, 10}, {2, 11}, {255, 264}, {256, 265}, {65536, 65545}, {262143, 262152}, {262144, 262153},
		{262145, 0}, {262146, 0}, {1 << 31, 0}, {1 << 32, 0}, {1<<32 + 1, 0}, {math.MaxInt - 9, 0}, {math.MaxInt - 1, 0}, {math.MaxInt, 0},
	}
	for _, c := range cases {
		if n := frame.Size(c.n); n != c.want {
			t.Errorf("Size(%d) = %d, want %d", c.n, n, c.want)
		}
	}
}

// P8.1: a frame's bytes, of each kind, and payloads of all sizes.
func TestMake(t *testing.T) {
	r := newRow()
	payloads := []string{"", "\x00", "\x01", "\xFF", "a", "ab", "\x00\x00\x00\x00", "payload", full(255), full(256), full(65535), full(65536), full(262143), full(262144)}
	for range 100 {
		payloads = append(payloads, r.text(300))
	}
	for _, p := range payloads {
		for kind := uint8(1); kind <= 3; kind++ {
			want := plain(kind, p)
			checkMake(t, kind, p, want, api.OK)
			if n := frame.Size(len(p)); n != len(want) {
				t.Errorf("Size(%d) = %d, want %d", len(p), n, len(want))
			}
		}
	}
}

// P8.1: a frame is read where it stands, whatever is ahead of it and behind it.
func TestRead(t *testing.T) {
	r := newRow()
	for round := range 300 {
		ahead, behind := r.text(20), r.text(20)
		f := frame.Frame{Kind: uint8(1 + round%3), Payload: r.text(60), At: len(ahead)}
		s := ahead + plain(f.Kind, f.Payload)
		checkRead(t, s+behind, f.At, f, len(s), api.OK)
	}
	for _, n := range []int{0, 1, 255, 256, 65535, 65536, 262143, 262144} {
		f := frame.Frame{Kind: 2, Payload: full(n), At: 5}
		checkRead(t, "ahead"+plain(2, full(n)), 5, f, 14+n, api.OK)
		checkRead(t, "ahead"+plain(2, full(n))+"\x00", 5, f, 14+n, api.OK)
	}
}

// P8.1: At is where a frame stands, and the place behind it where the next one does.
func TestReadOnAndOn(t *testing.T) {
	l := newRow().frames(20, 30)
	s := "some bytes" + plainAll(l)
	at := len("some bytes")
	for _, f := range l {
		f.At = at
		checkRead(t, s, at, f, at+9+len(f.Payload), api.OK)
		at += 9 + len(f.Payload)
	}
	checkWrong(t, s, at, api.ErrShort)
}

// P8.2: nothing, one frame, many, from each place, and from places that are none.
func TestScan(t *testing.T) {
	r := newRow()
	for _, count := range []int{0, 1, 2, 3, 10} {
		l := r.frames(count, 12)
		s := plainAll(l)
		checkScan(t, s, 0, l, len(s))
		for _, behind := range noFrame() {
			for _, at := range places(s + behind) {
				want, good := plainScan(s+behind, at)
				checkScan(t, s+behind, at, want, good)
			}
		}
		for i, f := range l {
			checkScan(t, s, f.At, l[i:], len(s))
		}
	}
}

// P8.2: what the ends are: the length is a place, what is below 0 and behind it is none.
func TestScanEnds(t *testing.T) {
	s := plain(1, "one")
	for _, at := range []int{math.MinInt, -9, -1, len(s) + 1, len(s) + 9, math.MaxInt - 8, math.MaxInt} {
		checkScan(t, s, at, nil, 0)
		checkScan(t, "", at, nil, 0)
	}
	checkScan(t, s, len(s), nil, len(s))
	checkScan(t, s, 1, nil, 1)
	checkScan(t, "", 0, nil, 0)
	checkScan(t, "\x00", 0, nil, 0)
	checkScan(t, "\x00", 1, nil, 1)
}

// P8.2: many frames, and the largest ones; one that is too large ends it, and so does one of no kind.
func TestScanLarge(t *testing.T) {
	many := newRow().frames(20000, 8)
	s := plainAll(many[:100])
	for i := 100; i < len(many); i += 100 {
		s += plainAll(many[i : i+100])
	}
	checkScan(t, s, 0, many, len(s))
	largest := []frame.Frame{{Kind: 2, Payload: full(262144)}, {Kind: 3, Payload: full(262144), At: 262153}, {Kind: 1, At: 524306}}
	s = plainAll(largest)
	checkScan(t, s, 0, largest, len(s))
	checkScan(t, s+plain(1, full(262145))+s, 0, largest, len(s))
	checkScan(t, s+plain(0, "")+s, 0, largest, len(s))
}

// P8.2: one frame, of that kind, and nothing else.
func TestOne(t *testing.T) {
	for _, payload := range []string{"", "a", "\x00", "payload", full(262144)} {
		for kind := uint8(1); kind <= 3; kind++ {
			s := plain(kind, payload)
			for asked := range 256 {
				if uint8(asked) == kind {
					checkOne(t, s, kind, payload, true)
				} else if len(payload) < 10 {
					checkOne(t, s, uint8(asked), "", false)
				}
			}
			checkOne(t, s+"\x00", kind, "", false)
			checkOne(t, "\x00"+s, kind, "", false)
			checkOne(t, s+s, kind, "", false)
			checkOne(t, s+plain(kind%3+1, ""), kind, "", false)
			checkOne(t, plain(kind%3+1, "")+s, kind, "", false)
			checkOne(t, s[:len(s)-1], kind, "", false)
			checkOne(t, s[1:], kind, "", false)
		}
	}
}

// P8.2: bytes that are no frame at all, of any kind; also where the kind asked is none and the checksum is right.
func TestOneOfNone(t *testing.T) {
	for kind := range 256 {
		for _, s := range noFrame() {
			checkOne(t, s, uint8(kind), "", false)
		}
		if kind < 1 || kind > 3 {
			checkOne(t, plain(uint8(kind), "payload"), uint8(kind), "", false)
		}
	}
	s := plain(3, "payload")
	for at := range s {
		checkOne(t, s[:at], 3, "", false)
		checkOne(t, bent(s, at, 1), 3, "", false)
	}
	checkOne(t, plain(1, full(262145)), 1, "", false)
}

// R1: what is told is new: of two lists of the same bytes one may be changed, and gone on with.
func TestListsApart(t *testing.T) {
	l := newRow().frames(5, 8)
	s := plainAll(l)
	one, _ := frame.Scan(s, 0)
	two, _ := frame.Scan(s, 0)
	clear(one)
	_ = append(one[:2], frame.Frame{Kind: 9})
	if !slices.Equal(two, l) {
		t.Errorf("%v", two)
	}
	checkScan(t, s, 0, l, len(s))
}

// R3: a frame may be held against another one by its fields.
func TestFrameFields(t *testing.T) {
	f, _, _ := frame.Read(plain(2, "a"), 0)
	if f != (frame.Frame{Kind: 2, Payload: "a"}) || fmt.Sprintf("%+v", f) != "{Kind:2 Payload:a At:0}" {
		t.Errorf("%+v", f)
	}
}
