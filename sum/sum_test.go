package sum_test

import (
	"hash/crc32"
	"math"
	"strings"
	"testing"

	"baton/sum"
)

// row is a fixed row of numbers without a plain rule.
type row uint64

func newRow() *row {
	r := row(88172645463325252)
	return &r
}

func (r *row) next() uint32 {
	*r ^= *r << 13
	*r ^= *r >> 7
	*r ^= *r << 17
	return uint32(*r >> 16)
}

func (r *row) text(length int) string {
	b := make([]byte, length)
	for i := range b {
		b[i] = byte(r.next())
	}
	return string(b)
}

// numbers are both ends, those with one bit, those with all but one, and some of no plain rule.
func numbers() []uint32 {
	list := []uint32{0, math.MaxUint32, 0x12345678, 0xA282EAD8, 0x82F63B78, 0x7FFF, 0xFFFF8000}
	for i := range 32 {
		list = append(list, 1<<i, ^uint32(1<<i))
	}
	r := newRow()
	for range 100 {
		list = append(list, r.next())
	}
	return list
}

// checksum is what the document says, bit by bit, written without the package.
func checksum(s string) uint32 {
	c := uint32(math.MaxUint32)
	for i := range len(s) {
		for place := range 8 {
			unlike := c&1 != uint32(s[i])>>place&1
			c >>= 1
			if unlike {
				c ^= 0x82F63B78
			}
		}
	}
	return ^c
}

// carried is what the document says, step by step.
func carried(c uint32, n int) uint32 {
	for range 8 * max(n, 0) {
		out := c & 1
		c >>= 1
		if out == 1 {
			c ^= 0x82F63B78
		}
	}
	return c
}

// images are what each bit becomes, carried over some bytes.
type images [32]uint32

func (m images) of(c uint32) uint32 {
	told := uint32(0)
	for i := range 32 {
		if c>>i&1 == 1 {
			told ^= m[i]
		}
	}
	return told
}

func (m images) then(other images) images {
	for i := range m {
		m[i] = other.of(m[i])
	}
	return m
}

// carriedFar is carried, for numbers of bytes that can't be gone over.
func carriedFar(c uint32, n int) uint32 {
	var double images
	for i := range double {
		double[i] = carried(1<<i, 1)
	}
	for ; n > 0; n /= 2 {
		if n%2 == 1 {
			c = double.of(c)
		}
		double = double.then(double)
	}
	return c
}

func checkOf(t *testing.T, s string, want uint32) {
	t.Helper()
	if got := sum.Of(s); got != want {
		t.Errorf("Of(%x) = %08X, want %08X", s, got, want)
	}
}

// The chapter's examples.
func TestExamples(t *testing.T) {
	checkOf(t, "", 0)
	checkOf(t, "a", 0xC1D04330)
	checkOf(t, "123456789", 0xE3069283)
	checkOf(t, strings.Repeat("\x00", 32), 0x8A9136AA)
	if m := sum.Mask(0); m != 0xA282EAD8 {
		t.Errorf("Mask(0) = %08X", m)
	}
	if j := sum.Join(1, 2, 0); j != 3 {
		t.Errorf("Join(1, 2, 0) = %08X", j)
	}
	if j := sum.Join(1, 0, 1); j != 0xF26B8303 {
		t.Errorf("Join(1, 0, 1) = %08X", j)
	}
}

// P2.1: texts of one byte of each value, and each pair of bytes.
func TestOfBytes(t *testing.T) {
	for first := range 256 {
		s := string([]byte{byte(first)})
		checkOf(t, s, checksum(s))
		for second := range 256 {
			pair := string([]byte{byte(first), byte(second)})
			checkOf(t, pair, checksum(pair))
		}
	}
}

// P2.1: texts of each length, around every step in which they may be gone over, and long ones.
func TestOfLengths(t *testing.T) {
	table := crc32.MakeTable(crc32.Castagnoli)
	r := newRow()
	for length := range 300 {
		for _, s := range []string{r.text(length), strings.Repeat("\x00", length), strings.Repeat("\xFF", length)} {
			checkOf(t, s, checksum(s))
			checkOf(t, s, crc32.Checksum([]byte(s), table))
		}
	}
	for _, length := range []int{4095, 4096, 4097, 65535, 65536, 65537, 1 << 20} {
		s := r.text(length)
		if sum.Of(s) != crc32.Checksum([]byte(s), table) {
			t.Errorf("a text of %d bytes: %08X", length, sum.Of(s))
		}
	}
}

// P2.1: the bytes are taken as they are, whether they are runes or not.
func TestOfRunes(t *testing.T) {
	for _, s := range []string{"é", "日本語", "\xC3", "a\x80z", "\xF0\x9F\x98\x80", "\xED\xA0\x80"} {
		checkOf(t, s, checksum(s))
	}
}

// P2.1, P2.3: Add at every cut of a text.
func TestAddCuts(t *testing.T) {
	r := newRow()
	for _, s := range []string{"", "a", "123456789", "what stands ahead, and what stands behind", r.text(100)} {
		for cut := range len(s) + 1 {
			if got := sum.Add(sum.Of(s[:cut]), s[cut:]); got != checksum(s) {
				t.Errorf("Add(Of(%x), %x) = %08X, want %08X", s[:cut], s[cut:], got, checksum(s))
			}
		}
	}
}

// P2.1: Add of a number, whatever it is: that of no text at hand, too.
func TestAddNumbers(t *testing.T) {
	table := crc32.MakeTable(crc32.Castagnoli)
	r := newRow()
	for _, c := range numbers() {
		if got := sum.Add(c, ""); got != c {
			t.Errorf("Add(%08X, nothing) = %08X", c, got)
		}
		for _, length := range []int{1, 2, 3, 4, 5, 31} {
			s := r.text(length)
			if got, want := sum.Add(c, s), crc32.Update(c, table, []byte(s)); got != want {
				t.Errorf("Add(%08X, %x) = %08X, want %08X", c, s, got, want)
			}
		}
	}
}

// P2.1: masked, at places where it shows which bits go where, and that more than 32 bits are let go.
func TestMask(t *testing.T) {
	for c, m := range map[uint32]uint32{
		0:          0xA282EAD8,
		1:          0xA284EAD8,
		0x4000:     0x2282EAD8,
		0x8000:     0xA282EAD9,
		0x80000000: 0xA283EAD8,
		0xFFFFFFFF: 0xA282EAD7,
		0xC1D04330: 0x28E46E78,
	} {
		if got := sum.Mask(c); got != m {
			t.Errorf("Mask(%08X) = %08X, want %08X", c, got, m)
		}
		if got := sum.Plain(m); got != c {
			t.Errorf("Plain(%08X) = %08X, want %08X", m, got, c)
		}
	}
}

// P2.1: the lowest 15 bits become the highest, one by one.
func TestMaskBits(t *testing.T) {
	for place := range 32 {
		to := (place + 17) % 32
		if got, want := sum.Mask(1<<place), uint32(1)<<to+0xA282EAD8; got != want {
			t.Errorf("Mask of bit %d = %08X, want %08X", place, got, want)
		}
	}
}

// P2.6: there and back.
func TestMaskBack(t *testing.T) {
	for _, c := range numbers() {
		if got := sum.Plain(sum.Mask(c)); got != c {
			t.Errorf("Plain(Mask(%08X)) = %08X", c, got)
		}
		if got := sum.Mask(sum.Plain(c)); got != c {
			t.Errorf("Mask(Plain(%08X)) = %08X", c, got)
		}
	}
}

// P2.1: Same of the masked number, of each that differs in one bit, and of the one that is not masked.
func TestSame(t *testing.T) {
	r := newRow()
	for _, s := range []string{"", "a", "123456789", strings.Repeat("\x00", 32), r.text(77)} {
		c := checksum(s)
		m := (c>>15 | c<<17) + 0xA282EAD8
		if !sum.Same(s, m) {
			t.Errorf("Same(%x, %08X) is false", s, m)
		}
		wrong := []uint32{c, ^m, m + 1, m - 1}
		for i := range 32 {
			wrong = append(wrong, m^1<<i)
		}
		for _, w := range wrong {
			if sum.Same(s, w) {
				t.Errorf("Same(%x, %08X) is true", s, w)
			}
		}
		if sum.Same(s+"\x00", m) || sum.Same("\x00"+s, m) {
			t.Errorf("%08X is that of %x with a byte more, too", m, s)
		}
	}
}

// P2.2: Join as it is said, step by step.
func TestJoinSteps(t *testing.T) {
	r := newRow()
	for _, a := range numbers() {
		for _, n := range []int{0, 1, 2, 3, 4, 5, 6, 7, 8, 9, 15, 16, 17, 31, 32, 33, 100} {
			b := r.next()
			if got, want := sum.Join(a, b, n), carried(a, n)^b; got != want {
				t.Errorf("Join(%08X, %08X, %d) = %08X, want %08X", a, b, n, got, want)
			}
		}
	}
	for _, n := range []int{255, 256, 257, 1000, 65535, 65536, 100003} {
		if got, want := sum.Join(0x12345678, 0x9ABCDEF0, n), carried(0x12345678, n)^0x9ABCDEF0; got != want {
			t.Errorf("Join over %d bytes = %08X, want %08X", n, got, want)
		}
	}
}

// P2.2: of n below 0, none.
func TestJoinBelowNothing(t *testing.T) {
	for _, n := range []int{0, -1, -2, -7, -8, -1000, math.MinInt32, math.MinInt + 1, math.MinInt} {
		for _, a := range numbers() {
			if got := sum.Join(a, 0x0F0F0F0F, n); got != a^0x0F0F0F0F {
				t.Errorf("Join(%08X, 0F0F0F0F, %d) = %08X", a, n, got)
			}
		}
	}
}

// P2.2, R1: as far as an int can say.
func TestJoinFar(t *testing.T) {
	for _, n := range []int{1<<20 + 1, math.MaxInt32 - 1, math.MaxInt32, math.MaxInt/2 + 1, math.MaxInt/3*2 + 1, math.MaxInt - 1, math.MaxInt} {
		for _, a := range numbers() {
			if got, want := sum.Join(a, 0x55AA55AA, n), carriedFar(a, n)^0x55AA55AA; got != want {
				t.Errorf("Join(%08X, 55AA55AA, %d) = %08X, want %08X", a, n, got, want)
			}
		}
	}
}

// P2.3: two texts, one behind the other, at every cut.
func TestJoinCuts(t *testing.T) {
	r := newRow()
	for _, s := range []string{"", "a", "123456789", strings.Repeat("\x00", 40), strings.Repeat("\xFF", 40), r.text(150)} {
		for cut := range len(s) + 1 {
			ahead, behind := s[:cut], s[cut:]
			if got := sum.Join(sum.Of(ahead), sum.Of(behind), len(behind)); got != checksum(s) {
				t.Errorf("Join(Of(%x), Of(%x), %d) = %08X, want %08X", ahead, behind, len(behind), got, checksum(s))
			}
		}
	}
	long := r.text(70001)
	for _, cut := range []int{0, 1, 4465, 35000, 70000, 70001} {
		if sum.Join(sum.Of(long[:cut]), sum.Of(long[cut:]), len(long)-cut) != sum.Of(long) {
			t.Errorf("70001 bytes, cut at %d", cut)
		}
	}
}

// turned is s, its bits from a place on turned by those of a burst, which has up to 64.
func turned(s string, place int, burst uint64) string {
	b := []byte(s)
	for ; burst != 0; burst >>= 1 {
		b[place/8] ^= byte(burst&1) << (place % 8)
		place++
	}
	return string(b)
}

// bursts are of up to 32 bits: one bit, two at each distance, all up to each length, and some of no plain rule.
func bursts() []uint64 {
	list := []uint64{0x82F63B78, 0x1EDC6F41, 0x05EC76F1}
	for i := range 32 {
		list = append(list, 1<<i, 1|1<<i, 1<<(i+1)-1)
	}
	r := newRow()
	for range 200 {
		if burst := r.next(); burst != 0 {
			list = append(list, uint64(burst), uint64(burst|0x80000001))
		}
	}
	return list
}

// P2.4: at each bit's place, over bytes' borders too.
func TestBursts(t *testing.T) {
	r := newRow()
	for _, s := range []string{r.text(13), strings.Repeat("\x00", 13), strings.Repeat("\xFF", 13)} {
		for place := range 8*len(s) - 31 {
			for _, burst := range bursts() {
				other := turned(s, place, burst)
				if other == s || sum.Of(other) == sum.Of(s) {
					t.Errorf("%x and %x: the same checksum", s, other)
				}
			}
		}
	}
}

// P2.4: the bits nearest to a text's end.
func TestBurstsAtEnd(t *testing.T) {
	for length := 1; length <= 8; length++ {
		s := newRow().text(length)
		for place := range 8 * length {
			for width := 1; width <= min(32, 8*length-place); width++ {
				if sum.Of(turned(s, place, 1<<width-1)) == sum.Of(s) {
					t.Errorf("%x: %d bits at %d", s, width, place)
				}
			}
		}
	}
}

// P2.4: 32 bits is as far as it goes, counted in the bits' own row: this one of 33 is not seen.
func TestBurstOf33(t *testing.T) {
	s := newRow().text(13)
	for place := range 8*len(s) - 32 {
		if sum.Of(turned(s, place, 1|0x82F63B78<<1)) != sum.Of(s) {
			t.Errorf("33 bits at %d", place)
		}
	}
}

// combined is three texts of one length, bit by bit.
func combined(x, y, z string) string {
	b := make([]byte, len(x))
	for i := range b {
		b[i] = x[i] ^ y[i] ^ z[i]
	}
	return string(b)
}

// P2.5: three texts.
func TestThreeTexts(t *testing.T) {
	r := newRow()
	for length := range 70 {
		x, y, z := r.text(length), r.text(length), r.text(length)
		for _, three := range [][3]string{{x, y, z}, {x, x, y}, {x, x, x}, {x, y, strings.Repeat("\x00", length)}} {
			told := sum.Of(three[0]) ^ sum.Of(three[1]) ^ sum.Of(three[2])
			if got := sum.Of(combined(three[0], three[1], three[2])); got != told {
				t.Errorf("%x, %x and %x: %08X, combined %08X", three[0], three[1], three[2], got, told)
			}
		}
	}
}

// P2.7: over some bytes, and over some more.
func TestCarriedOn(t *testing.T) {
	counts := []int{0, 1, 2, 3, 4, 5, 7, 8, 12, 13, 63, 64, 65, 1000, 65536, 999983, 1<<30 - 1, math.MaxInt / 3, math.MaxInt / 2}
	for _, c := range numbers() {
		for _, some := range counts {
			for _, more := range counts {
				if got, want := sum.Join(sum.Join(c, 0, some), 0, more), sum.Join(c, 0, some+more); got != want {
					t.Errorf("%08X over %d and %d bytes: %08X, want %08X", c, some, more, got, want)
				}
			}
		}
	}
}

// R3, LANGUAGE.md 5: what is told hangs on what was handed in alone, whatever was asked ahead of it.
func TestAskedAgain(t *testing.T) {
	first := [4]uint32{sum.Of("again"), sum.Add(7, "again"), sum.Join(7, 8, 5), sum.Join(7, 8, math.MaxInt)}
	for range 3 {
		sum.Of("between")
		sum.Join(1, 2, 1<<30+1)
		if again := [4]uint32{sum.Of("again"), sum.Add(7, "again"), sum.Join(7, 8, 5), sum.Join(7, 8, math.MaxInt)}; again != first {
			t.Errorf("asked again: %08X, at first %08X", again, first)
		}
	}
}
