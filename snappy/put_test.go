package snappy

import (
	"testing"

	"baton/api"
	"baton/bits"
)

// P3.2: copies from farther away than a block that is written has bytes are put by the last form, and read by it.
func TestPutFarthest(t *testing.T) {
	cases := []struct {
		off, n int
		want   string
	}{
		{65535, 4, "\x0E\xFF\xFF"}, {65535, 64, "\xFE\xFF\xFF"},
		{65536, 1, "\x03\x00\x00\x01\x00"}, {65536, 4, "\x0F\x00\x00\x01\x00"}, {65536, 11, "\x2B\x00\x00\x01\x00"}, {65536, 64, "\xFF\x00\x00\x01\x00"},
		{0x12345678, 3, "\x0B\x78\x56\x34\x12"}, {1<<32 - 1, 64, "\xFF\xFF\xFF\xFF\xFF"},
	}
	for _, c := range cases {
		p := Part{Copy: true, Off: c.off, Len: c.n}
		if got := put([]byte("ahead"), p); string(got) != "ahead"+c.want {
			t.Errorf("put(%d, %d) = %x, want %x", c.off, c.n, got, c.want)
		}
		r := bits.New(c.want)
		if got := element(r); got != p || r.End() != api.OK {
			t.Errorf("element(%x) = %d, %d; End %d", c.want, got.Off, got.Len, r.End())
		}
		if !mayBe(p) {
			t.Errorf("a copy of %d by %d may not be", c.n, c.off)
		}
	}
	if mayBe(Part{Copy: true, Off: 1 << 32, Len: 1}) {
		t.Error("an Off of 2^32 may be")
	}
}
