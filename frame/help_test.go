package frame_test

import (
	"encoding/binary"
	"hash/crc32"
	"math"
	"slices"
	"strings"
	"testing"

	"baton/api"
	"baton/frame"
)

// row is a fixed row of numbers without a plain rule.
type row uint64

func newRow() *row {
	r := row(88172645463325252)
	return &r
}

func (r *row) next() uint64 {
	*r ^= *r << 13
	*r ^= *r >> 7
	*r ^= *r << 17
	return uint64(*r)
}

// below is a number from 0 on, below end.
func (r *row) below(end int) int { return int(r.next() >> 33 % uint64(end)) }

func (r *row) text(most int) string {
	b := make([]byte, r.below(most+1))
	for i := range b {
		b[i] = byte(r.next())
	}
	return string(b)
}

// frames are some, of any kinds, with payloads up to so many bytes.
func (r *row) frames(count, most int) []frame.Frame {
	var l []frame.Frame
	at := 0
	for range count {
		f := frame.Frame{Kind: uint8(1 + r.below(3)), Payload: r.text(most), At: at}
		l = append(l, f)
		at += 9 + len(f.Payload)
	}
	return l
}

// places are those of a text, and such as are none.
func places(s string) []int {
	l := []int{math.MinInt, math.MinInt + 1, -10, -9, -1, len(s) + 1, len(s) + 9, math.MaxInt - 8, math.MaxInt - 1, math.MaxInt}
	for at := range len(s) + 1 {
		l = append(l, at)
	}
	return l
}

// Frames, written and read without the package.

// checksum is the masked checksum of a kind and a payload.
func checksum(kind uint8, payload string) uint32 {
	c := crc32.Checksum([]byte(string([]byte{kind})+payload), crc32.MakeTable(crc32.Castagnoli))
	return c>>15 + c<<17 + 0xA282EAD8
}

// laid is a frame's bytes, whatever is in it.
func laid(length, checksum uint32, kind uint8, payload string) string {
	b := binary.LittleEndian.AppendUint32(nil, length)
	b = binary.LittleEndian.AppendUint32(b, checksum)
	return string(append(b, kind)) + payload
}

// plain is a frame's bytes, also of a kind, or a length, that may not be: but for that all is right.
func plain(kind uint8, payload string) string {
	return laid(uint32(len(payload)), checksum(kind, payload), kind, payload)
}

// plainAll is the bytes of frames, one behind the other.
func plainAll(l []frame.Frame) string {
	s := ""
	for _, f := range l {
		s += plain(f.Kind, f.Payload)
	}
	return s
}

// plainRead tells what is wrong with what stands at a place from the last one of the errors on, so that an earlier one of the row counts.
func plainRead(s string, at int) (f frame.Frame, next int, e api.Errno) {
	if at < 0 || at > len(s) {
		return f, 0, api.ErrArg
	}
	rest := s[at:]
	if len(rest) < 9 {
		return f, 0, api.ErrShort
	}
	length := int64(binary.LittleEndian.Uint32([]byte(rest)))
	have := min(length, int64(len(rest)-9))
	kind, payload := rest[8], rest[9:9+have]
	if kind < 1 || kind > 3 {
		e = api.ErrForm
	}
	if binary.LittleEndian.Uint32([]byte(rest[4:])) != checksum(kind, payload) {
		e = api.ErrSum
	}
	if have < length {
		e = api.ErrShort
	}
	if length > 262144 {
		e = api.ErrTooLarge
	}
	if e != api.OK {
		return f, 0, e
	}
	return frame.Frame{Kind: kind, Payload: payload, At: at}, at + 9 + len(payload), api.OK
}

func plainScan(s string, at int) (l []frame.Frame, good int) {
	if at < 0 || at > len(s) {
		return nil, 0
	}
	f, next, e := plainRead(s, at)
	if e != api.OK {
		return nil, at
	}
	behind, good := plainScan(s, next)
	return append([]frame.Frame{f}, behind...), good
}

// What the package answers, held against what it should.

func checkMake(t *testing.T, kind uint8, payload, want string, wantE api.Errno) {
	t.Helper()
	s, e := frame.Make(kind, payload)
	if s != want || e != wantE {
		t.Errorf("Make(%d, %.40q) = %.60q (%d bytes), %d; want %.60q (%d bytes), %d", kind, payload, s, len(s), e, want, len(want), wantE)
	}
}

func checkRead(t *testing.T, s string, at int, want frame.Frame, wantNext int, wantE api.Errno) {
	t.Helper()
	f, next, e := frame.Read(s, at)
	if f != want || next != wantNext || e != wantE {
		t.Errorf("Read(%.60q (%d bytes), %d) = %.60v, %d, %d; want %.60v, %d, %d", s, len(s), at, f, next, e, want, wantNext, wantE)
	}
}

// checkWrong: beside the error all is 0.
func checkWrong(t *testing.T, s string, at int, e api.Errno) {
	t.Helper()
	checkRead(t, s, at, frame.Frame{}, 0, e)
}

func checkScan(t *testing.T, s string, at int, want []frame.Frame, wantGood int) {
	t.Helper()
	l, good := frame.Scan(s, at)
	if !slices.Equal(l, want) || good != wantGood {
		t.Errorf("Scan(%.60q (%d bytes), %d) = %.60v (%d frames), %d; want %.60v (%d frames), %d", s, len(s), at, l, len(l), good, want, len(want), wantGood)
	}
}

func checkOne(t *testing.T, s string, kind uint8, want string, wantIs bool) {
	t.Helper()
	payload, is := frame.One(s, kind)
	if payload != want || is != wantIs {
		t.Errorf("One(%.60q (%d bytes), %d) = %.60q, %v; want %.60q, %v", s, len(s), kind, payload, is, want, wantIs)
	}
}

// full is a payload of so many bytes.
func full(n int) string { return strings.Repeat("payload ", n/8+1)[:n] }

// bent is s with one byte another one.
func bent(s string, at int, by byte) string {
	return s[:at] + string([]byte{s[at] ^ by}) + s[at+1:]
}

// noFrame are bytes by which no frame begins.
func noFrame() []string {
	return []string{"", "\x00", "\x01", "\xFF", "\x00\x00\x00\x00", "12345678", "\x00\x00\x00\x00\x05\x2B\x28\x43", "\x00\x00\x00\x00\x00\x00\x00\x00\x00", "\xFF\xFF\xFF\xFF\xFF\xFF\xFF\xFF\xFF\xFF", "no frame is here, nor one behind it", plain(1, "half a frame")[:12], plain(4, "none of the kinds"), "\x01" + plain(1, "a byte too late")}
}
