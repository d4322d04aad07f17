package bits_test

import (
	"encoding/binary"
	"math"
	"strings"
	"testing"

	"baton/api"
	"baton/bits"
)

// numbers are ordinary ones, and both ends of each count of bytes a varint may have.
func numbers() []uint64 {
	list := []uint64{0, 1, 2, 100, 258, 300, 65535, 1000000, math.MaxUint32, math.MaxUint32 + 1, math.MaxInt64, math.MaxInt64 + 1, math.MaxUint64 - 1, math.MaxUint64}
	for shift := 7; shift < 64; shift += 7 {
		list = append(list, 1<<shift-1, 1<<shift, 1<<shift+1)
	}
	n := uint64(88172645463325252)
	for range 300 { // a fixed row of numbers of all sizes
		n ^= n << 13
		n ^= n >> 7
		n ^= n << 17
		list = append(list, n>>(n%64))
	}
	return list
}

// signed are ordinary signed numbers, and the ends.
func signed() []int64 {
	list := []int64{0, math.MinInt64, math.MinInt64 + 1, math.MaxInt64, math.MaxInt64 - 1}
	for _, n := range numbers() {
		list = append(list, int64(n), -int64(n))
	}
	return list
}

// uvarint is what the document says a varint is, written without the package.
func uvarint(n uint64) string { return string(binary.AppendUvarint(nil, n)) }

func checkUvarint(t *testing.T, s string, at int, n uint64, next int, e api.Errno) {
	t.Helper()
	gotN, gotNext, gotE := bits.Uvarint(s, at)
	if gotN != n || gotNext != next || gotE != e {
		t.Errorf("Uvarint(%x, %d) = %d, %d, %d; want %d, %d, %d", s, at, gotN, gotNext, gotE, n, next, e)
	}
}

func checkFixed(t *testing.T, s string, at, size int, n uint64, next int, e api.Errno) {
	t.Helper()
	gotN, gotNext, gotE := bits.Fixed(s, at, size)
	if gotN != n || gotNext != next || gotE != e {
		t.Errorf("Fixed(%x, %d, %d) = %d, %d, %d; want %d, %d, %d", s, at, size, gotN, gotNext, gotE, n, next, e)
	}
}

// P1.1: varints.
func TestUvarint(t *testing.T) {
	checkUvarint(t, "\xAC\x02", 0, 300, 2, api.OK)
	for _, n := range numbers() {
		s := uvarint(n)
		checkUvarint(t, s, 0, n, len(s), api.OK)
		checkUvarint(t, "\xFF\x80"+s+"\x80\x01", 2, n, 2+len(s), api.OK)
	}
	last := strings.Repeat("\xFF", 9)
	checkUvarint(t, last+"\x01", 0, math.MaxUint64, 10, api.OK)
	checkUvarint(t, last+"\x00", 0, math.MaxInt64, 10, api.OK)
	checkUvarint(t, last+"\x01\x01", 0, math.MaxUint64, 10, api.OK)
}

// The table of errors, in its order.
func TestUvarintErrors(t *testing.T) {
	for _, at := range []int{-1, 3, 4, math.MinInt, math.MaxInt} {
		checkUvarint(t, "\x01\x80", at, 0, 0, api.ErrArg)
	}
	checkUvarint(t, "", 1, 0, 0, api.ErrArg)
	checkUvarint(t, "", -1, 0, 0, api.ErrArg)
	checkUvarint(t, "", 0, 0, 0, api.ErrShort)
	checkUvarint(t, "\x01", 1, 0, 0, api.ErrShort)
	checkUvarint(t, "\x01\x80", 1, 0, 0, api.ErrShort)
	nine := strings.Repeat("\xFF", 9)
	checkUvarint(t, nine, 0, 0, 0, api.ErrShort)
	checkUvarint(t, "\x05"+nine, 1, 0, 0, api.ErrShort)
	for _, tenth := range []string{"\x02", "\x03", "\x7F", "\x80", "\x81", "\xFF"} {
		checkUvarint(t, nine+tenth, 0, 0, 0, api.ErrForm)
		checkUvarint(t, nine+tenth+"\x00", 0, 0, 0, api.ErrForm)
		checkUvarint(t, strings.Repeat("\x80", 9)+tenth, 0, 0, 0, api.ErrForm)
	}
}

// P1.1, P1.3: what is put is b, and behind it as few bytes as can be.
func TestPutUvarint(t *testing.T) {
	if b := bits.PutUvarint(nil, 300); string(b) != "\xAC\x02" || bits.Len(300) != 2 {
		t.Errorf("300: %x, Len %d", b, bits.Len(300))
	}
	for _, n := range numbers() {
		want := uvarint(n)
		if b := bits.PutUvarint([]byte("ahead"), n); string(b) != "ahead"+want {
			t.Errorf("PutUvarint(ahead, %d) = %x", n, b)
		}
		if l := bits.Len(n); l != len(want) {
			t.Errorf("Len(%d) = %d, want %d", n, l, len(want))
		}
	}
}

// P1.3: the ends of each count of bytes.
func TestLenEnds(t *testing.T) {
	for count := 1; count <= 9; count++ {
		top := uint64(1)<<(7*count) - 1
		if l := bits.Len(top); l != count {
			t.Errorf("Len(%d) = %d, want %d", top, l, count)
		}
		if l := bits.Len(top + 1); l != count+1 {
			t.Errorf("Len(%d) = %d, want %d", top+1, l, count+1)
		}
	}
	if bits.Len(0) != 1 || bits.Len(math.MaxUint64) != 10 {
		t.Errorf("Len(0) = %d, Len(2^64-1) = %d", bits.Len(0), bits.Len(math.MaxUint64))
	}
}

// P1.4: bytes more, of nothing, ahead of its end.
func TestLonger(t *testing.T) {
	checkUvarint(t, "\xAC\x82\x00", 0, 300, 3, api.OK)
	for _, n := range numbers() {
		s := uvarint(n)
		for count := len(s) + 1; count <= 10; count++ {
			long := s[:len(s)-1] + string([]byte{s[len(s)-1] | 0x80}) + strings.Repeat("\x80", count-len(s)-1) + "\x00"
			checkUvarint(t, long, 0, n, count, api.OK)
			r := bits.New(long)
			if got := r.Varint(n); got != n || r.End() != api.OK {
				t.Errorf("Varint of %x = %d, %d", long, got, r.End())
			}
		}
	}
	checkUvarint(t, strings.Repeat("\x80", 9)+"\x00", 0, 0, 10, api.OK)
	checkUvarint(t, strings.Repeat("\x80", 9)+"\x01", 0, 1<<63, 10, api.OK)
	checkUvarint(t, strings.Repeat("\x80", 10)+"\x00", 0, 0, 0, api.ErrForm)
}

// P1.1: the numbers that the document names.
func TestZig(t *testing.T) {
	cases := []struct {
		n int64
		u uint64
	}{{0, 0}, {-1, 1}, {1, 2}, {-2, 3}, {2, 4}, {150, 300}, {-151, 301}, {math.MaxInt64, math.MaxUint64 - 1}, {math.MinInt64, math.MaxUint64}}
	for _, c := range cases {
		if u := bits.Zig(c.n); u != c.u {
			t.Errorf("Zig(%d) = %d, want %d", c.n, u, c.u)
		}
		if n := bits.Zag(c.u); n != c.n {
			t.Errorf("Zag(%d) = %d, want %d", c.u, n, c.n)
		}
	}
}

// P1.5: both ways back, and nearer to 0 no greater.
func TestZigzag(t *testing.T) {
	for _, n := range signed() {
		if got := bits.Zag(bits.Zig(n)); got != n {
			t.Errorf("Zag of Zig of %d = %d", n, got)
		}
	}
	for _, u := range numbers() {
		if got := bits.Zig(bits.Zag(u)); got != u {
			t.Errorf("Zig of Zag of %d = %d", u, got)
		}
	}
	for _, a := range signed() {
		for _, b := range signed() {
			if distance(a) < distance(b) && bits.Zig(a) > bits.Zig(b) {
				t.Errorf("Zig(%d) = %d is above Zig(%d) = %d", a, bits.Zig(a), b, bits.Zig(b))
			}
		}
	}
}

// distance is how far a number is from 0: that of the least one is 2^63.
func distance(n int64) uint64 {
	if n < 0 {
		return -uint64(n)
	}
	return uint64(n)
}

// P1.1: numbers of 4 and of 8 bytes.
func TestFixed(t *testing.T) {
	if b := bits.PutFixed(nil, 258, 4); string(b) != "\x02\x01\x00\x00" {
		t.Errorf("258 of 4 bytes: %x", b)
	}
	for _, n := range numbers() {
		four := string(binary.LittleEndian.AppendUint32(nil, uint32(n)))
		eight := string(binary.LittleEndian.AppendUint64(nil, n))
		if b := bits.PutFixed([]byte("ahead"), n, 4); string(b) != "ahead"+four {
			t.Errorf("PutFixed(ahead, %d, 4) = %x", n, b)
		}
		if b := bits.PutFixed([]byte("ahead"), n, 8); string(b) != "ahead"+eight {
			t.Errorf("PutFixed(ahead, %d, 8) = %x", n, b)
		}
		checkFixed(t, four, 0, 4, n&math.MaxUint32, 4, api.OK)
		checkFixed(t, eight, 0, 8, n, 8, api.OK)
		checkFixed(t, "abc"+four+eight+"d", 3, 4, n&math.MaxUint32, 7, api.OK)
		checkFixed(t, "abc"+four+eight+"d", 7, 8, n, 15, api.OK)
	}
}

// P1.1: of another size PutFixed tells b as it is.
func TestPutFixedOtherSize(t *testing.T) {
	for _, size := range []int{math.MinInt, -8, -4, -1, 0, 1, 2, 3, 5, 7, 9, 16, math.MaxInt} {
		if b := bits.PutFixed([]byte("ahead"), math.MaxUint64, size); string(b) != "ahead" {
			t.Errorf("PutFixed(ahead, 2^64-1, %d) = %x", size, b)
		}
		if b := bits.PutFixed(nil, 1, size); len(b) != 0 {
			t.Errorf("PutFixed(nil, 1, %d) = %x", size, b)
		}
	}
}

// The table of errors, in its order.
func TestFixedErrors(t *testing.T) {
	s := "123456789"
	for _, size := range []int{math.MinInt, -4, 0, 1, 3, 5, 7, 9, math.MaxInt} {
		checkFixed(t, s, 0, size, 0, 0, api.ErrArg)
		checkFixed(t, "", 0, size, 0, 0, api.ErrArg)
	}
	for _, size := range []int{4, 8} {
		for _, at := range []int{math.MinInt, -1, 10, math.MaxInt} {
			checkFixed(t, s, at, size, 0, 0, api.ErrArg)
		}
		for at := len(s) - size + 1; at <= len(s); at++ {
			checkFixed(t, s, at, size, 0, 0, api.ErrShort)
		}
		checkFixed(t, "", 0, size, 0, 0, api.ErrShort)
	}
}

// P1.1: a text is its length, and its bytes.
func TestPutText(t *testing.T) {
	for _, n := range []int{0, 1, 2, 127, 128, 300, 16383, 16384} {
		s := strings.Repeat("\xFFa", n)[:n]
		if b := bits.PutText([]byte("ahead"), s); string(b) != "ahead"+uvarint(uint64(n))+s {
			t.Errorf("a text of %d bytes: %d bytes", n, len(b))
		}
	}
	if b := bits.PutText(nil, ""); string(b) != "\x00" {
		t.Errorf("an empty text: %x", b)
	}
}

// R1: what is handed in stays, whether there is room behind it or not.
func TestPutKeepsBytes(t *testing.T) {
	puts := []func(b []byte) []byte{
		func(b []byte) []byte { return bits.PutUvarint(b, math.MaxUint64) },
		func(b []byte) []byte { return bits.PutFixed(b, math.MaxUint64, 4) },
		func(b []byte) []byte { return bits.PutFixed(b, math.MaxUint64, 8) },
		func(b []byte) []byte { return bits.PutFixed(b, math.MaxUint64, 3) },
		func(b []byte) []byte { return bits.PutText(b, "text") },
	}
	for i, put := range puts {
		for _, room := range []int{0, 1, 64} {
			b := append(make([]byte, 0, 5+room), "ahead"...)
			got := put(b)
			if string(b) != "ahead" || string(got[:5]) != "ahead" {
				t.Errorf("put %d with room %d: b is %q, told %q", i, room, b, got)
			}
		}
	}
}
