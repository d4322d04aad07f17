package frame_test

import (
	"math/bits"
	"testing"

	"baton/api"
	"baton/frame"
)

// mess is bytes as they come: frames, such as are not right, and others, up to about so many.
func (r *row) mess(most int) string {
	s := ""
	for range r.below(6) {
		good := plain(uint8(1+r.below(3)), r.text(most/6))
		switch r.below(10) {
		case 0:
			s += good[:r.below(len(good))]
		case 1:
			s += bent(good, r.below(len(good)), byte(1+r.below(255)))
		case 2:
			s += plain(uint8(r.next()), r.text(most/6))
		case 3:
			s += laid(uint32(r.next()), uint32(r.next()), uint8(1+r.below(3)), r.text(most/6))
		case 4:
			s += r.text(most / 6)
		case 5:
			s += "\x00\x00\x00\x00\x05\x2B\x28\x43\x01"
		default:
			s += good
		}
	}
	return s
}

// P8.3: what is made is read as it is, wherever it stands.
func TestMadeRead(t *testing.T) {
	r := newRow()
	for _, payload := range []string{"", "\x00", r.text(10), r.text(1000), full(262144)} {
		for kind := uint8(1); kind <= 3; kind++ {
			s, e := frame.Make(kind, payload)
			if e != api.OK {
				t.Errorf("Make(%d, %.40q): %d", kind, payload, e)
			}
			checkRead(t, s, 0, frame.Frame{Kind: kind, Payload: payload}, len(s), api.OK)
			checkRead(t, "ahead"+s+"behind", 5, frame.Frame{Kind: kind, Payload: payload, At: 5}, 5+len(s), api.OK)
			checkOne(t, s, kind, payload, true)
		}
	}
}

// P8.3: what is read, made, is the bytes that were read.
func TestReadMade(t *testing.T) {
	r := newRow()
	read := 0
	for range 2000 {
		s := r.mess(60)
		for at := range len(s) + 1 {
			f, next, e := frame.Read(s, at)
			if e != api.OK {
				continue
			}
			read++
			checkMake(t, f.Kind, f.Payload, s[at:next], api.OK)
			if f.At != at || next-at != frame.Size(len(f.Payload)) {
				t.Errorf("Read(%q, %d) = %v, %d", s, at, f, next)
			}
		}
	}
	if read < 1000 {
		t.Errorf("only %d frames were read", read)
	}
}

// P8.4: frames, put together, with bytes behind that begin by no frame.
func TestInARow(t *testing.T) {
	r := newRow()
	for round := range 200 {
		l := r.frames(round%12, 20)
		s := ""
		for _, f := range l {
			one, _ := frame.Make(f.Kind, f.Payload)
			s += one
		}
		for _, behind := range noFrame() {
			checkScan(t, s+behind, 0, l, len(s))
		}
		ahead := r.text(30)
		for i := range l {
			l[i].At += len(ahead)
		}
		checkScan(t, ahead+s+"\x00", len(ahead), l, len(ahead+s))
	}
}

// P8.5: cut short at every byte, the frames that are whole are scanned, and no more.
func TestTorn(t *testing.T) {
	r := newRow()
	for range 60 {
		l := r.frames(r.below(7), 25)
		s := plainAll(l)
		for cut := range len(s) + 1 {
			whole, good := 0, 0
			for _, f := range l {
				if end := f.At + 9 + len(f.Payload); end <= cut {
					whole, good = whole+1, end
				}
			}
			checkScan(t, s[:cut], 0, l[:whole], good)
		}
	}
}

// P8.6: with each byte another one the frames ahead are scanned as they were; where the one stands that has it, there is none, or one of another length.
func TestBent(t *testing.T) {
	r := newRow()
	for range 6 {
		l := r.frames(3, 12)
		s := plainAll(l)
		for at := range s {
			hit := frameAt(l, at)
			for by := 1; by < 256; by++ {
				b := bent(s, at, byte(by))
				got, good := frame.Scan(b, 0)
				if len(got) < hit || good < l[hit].At {
					t.Fatalf("byte %d of %q another one: %v, %d", at, s, got, good)
				}
				for i, f := range l[:hit] {
					if got[i] != f {
						t.Errorf("byte %d of %q another one: %v", at, s, got)
					}
				}
				f, _, e := frame.Read(b, l[hit].At)
				if e == api.OK && len(f.Payload) == len(l[hit].Payload) {
					t.Errorf("byte %d of %q another one: %v", at, s, f)
				}
				if at-l[hit].At >= 4 && e != api.ErrSum {
					t.Errorf("byte %d of %q another one: %d", at, s, e)
				}
			}
		}
	}
}

// frameAt is which of the frames has the byte at a place.
func frameAt(l []frame.Frame, at int) int {
	hit := 0
	for i, f := range l {
		if f.At <= at {
			hit = i
		}
	}
	return hit
}

// unmoved are 4 bytes that leave a checksum as it is, if they stand behind its bytes.
func unmoved(c uint32) string {
	state := ^c
	back := state
	for range 32 {
		out := back >> 31
		back = (back^0x82F63B78*out)<<1 | out
	}
	x := back ^ state
	return string([]byte{byte(x), byte(x >> 8), byte(x >> 16), byte(x >> 24)})
}

// P8.6: a length that is another one may make a frame that is right, of another length: shorter, or longer.
func TestBentLength(t *testing.T) {
	short := "some bytes of a payload"
	masked := checksum(2, short) - 0xA282EAD8
	long := short + unmoved(bits.RotateLeft32(masked, 15))
	if checksum(2, long) != checksum(2, short) {
		t.Fatalf("%x has another checksum than %x", long, short)
	}
	ahead := plain(1, "ahead")
	s := ahead + plain(2, long)
	toShort := bent(s, 14, byte(len(short))^byte(len(long)))
	want := []frame.Frame{{Kind: 1, Payload: "ahead"}, {Kind: 2, Payload: short, At: 14}}
	checkScan(t, toShort, 0, want, len(s)-4)
	s = ahead + plain(2, short) + long[len(short):]
	toLong := bent(s, 14, byte(len(short))^byte(len(long)))
	want[1].Payload = long
	checkScan(t, toLong, 0, want, len(s))
}

// P8.7: of whatever bytes frames follow one another without a gap, and where scanning ends no frame can be read.
func TestWhateverItIs(t *testing.T) {
	r := newRow()
	seen := 0
	for range 2000 {
		s := r.mess(60)
		for _, at := range places(s) {
			l, good := frame.Scan(s, at)
			if at < 0 || at > len(s) {
				if len(l) != 0 || good != 0 {
					t.Errorf("Scan(%q, %d) = %v, %d", s, at, l, good)
				}
				continue
			}
			place := at
			for _, f := range l {
				if f.At != place {
					t.Errorf("Scan(%q, %d): one at %d, want %d", s, at, f.At, place)
				}
				place += 9 + len(f.Payload)
			}
			if _, _, e := frame.Read(s, good); place != good || e == api.OK {
				t.Errorf("Scan(%q, %d) ends at %d, the frames at %d; Read there: %d", s, at, good, place, e)
			}
			want, wantGood := plainScan(s, at)
			checkScan(t, s, at, want, wantGood)
			seen += len(l)
		}
	}
	if seen < 1000 {
		t.Errorf("only %d frames", seen)
	}
}
