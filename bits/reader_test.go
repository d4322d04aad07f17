package bits_test

import (
	"math"
	"strings"
	"testing"

	"baton/api"
	"baton/bits"
)

// step is one thing of a row: how it is put, and how it is read again.
type step struct {
	name string
	put  func(b []byte) []byte
	take func(r *bits.Reader) bool // tells whether what was read is what was put
	none func(r *bits.Reader) bool // tells whether what was read is 0, or empty
}

func varintStep(n uint64) step {
	return step{
		"varint",
		func(b []byte) []byte { return bits.PutUvarint(b, n) },
		func(r *bits.Reader) bool { return r.Varint(n) == n },
		func(r *bits.Reader) bool { return r.Varint(math.MaxUint64) == 0 },
	}
}

func zagStep(n int64) step {
	return step{
		"zag",
		func(b []byte) []byte { return bits.PutUvarint(b, bits.Zig(n)) },
		func(r *bits.Reader) bool { return r.Zag(n, n) == n },
		func(r *bits.Reader) bool { return r.Zag(math.MinInt64, math.MaxInt64) == 0 },
	}
}

func fixedStep(n uint64, size int) step {
	return step{
		"fixed",
		func(b []byte) []byte { return bits.PutFixed(b, n, size) },
		func(r *bits.Reader) bool { return r.Fixed(size) == n },
		func(r *bits.Reader) bool { return r.Fixed(size) == 0 },
	}
}

func byteStep(c uint8) step {
	return step{
		"byte",
		func(b []byte) []byte { return append(b, c) },
		func(r *bits.Reader) bool { return r.Byte() == c },
		func(r *bits.Reader) bool { return r.Byte() == 0 },
	}
}

func rawStep(s string) step {
	return step{
		"raw",
		func(b []byte) []byte { return append(b, s...) },
		func(r *bits.Reader) bool { return r.Raw(len(s)) == s },
		func(r *bits.Reader) bool { return r.Raw(len(s)) == "" },
	}
}

func textStep(s string) step {
	return step{
		"text",
		func(b []byte) []byte { return bits.PutText(b, s) },
		func(r *bits.Reader) bool { return r.Text(len(s)) == s },
		func(r *bits.Reader) bool { return r.Text(math.MaxInt) == "" },
	}
}

// steps are things of all kinds, one behind the other; each has one byte at least.
func steps() []step {
	long := strings.Repeat("long \x80\xFF", 30)
	list := []step{
		varintStep(0), varintStep(300), varintStep(math.MaxUint64),
		zagStep(0), zagStep(-1), zagStep(1), zagStep(math.MinInt64), zagStep(math.MaxInt64),
		fixedStep(258, 4), fixedStep(math.MaxUint32, 4), fixedStep(7, 8), fixedStep(math.MaxUint64, 8),
		byteStep(0), byteStep(1), byteStep(0x80), byteStep(0xFF),
		rawStep("raw"), rawStep(long), textStep(""), textStep("text"), textStep(long),
	}
	for shift := 7; shift < 64; shift += 7 {
		list = append(list, varintStep(1<<shift-1), varintStep(1<<shift))
	}
	return list
}

// asks are all calls that take something: each tells whether it answered 0, or empty.
func asks() map[string]func(r *bits.Reader) bool {
	return map[string]func(r *bits.Reader) bool{
		"Varint":   func(r *bits.Reader) bool { return r.Varint(math.MaxUint64) == 0 },
		"Varint 0": func(r *bits.Reader) bool { return r.Varint(0) == 0 },
		"Zag":      func(r *bits.Reader) bool { return r.Zag(math.MinInt64, math.MaxInt64) == 0 },
		"Zag none": func(r *bits.Reader) bool { return r.Zag(1, -1) == 0 },
		"Fixed 4":  func(r *bits.Reader) bool { return r.Fixed(4) == 0 },
		"Fixed 8":  func(r *bits.Reader) bool { return r.Fixed(8) == 0 },
		"Fixed 5":  func(r *bits.Reader) bool { return r.Fixed(5) == 0 },
		"Byte":     func(r *bits.Reader) bool { return r.Byte() == 0 },
		"Raw":      func(r *bits.Reader) bool { return r.Raw(1) == "" },
		"Raw 0":    func(r *bits.Reader) bool { return r.Raw(0) == "" },
		"Raw -1":   func(r *bits.Reader) bool { return r.Raw(-1) == "" },
		"Text":     func(r *bits.Reader) bool { return r.Text(math.MaxInt) == "" },
		"Text 0":   func(r *bits.Reader) bool { return r.Text(0) == "" },
		"Text -1":  func(r *bits.Reader) bool { return r.Text(-1) == "" },
	}
}

// checkStuck is P1.7: a reader with an error stays where it stands, tells it, and nothing else.
func checkStuck(t *testing.T, r *bits.Reader, at, left int, e api.Errno) {
	t.Helper()
	for round := range 2 {
		if r.Err() != e || r.End() != e || r.At() != at || r.Left() != left {
			t.Fatalf("round %d: Err %d, End %d, At %d, Left %d; want %d, %d, %d", round, r.Err(), r.End(), r.At(), r.Left(), e, at, left)
		}
		for name, none := range asks() {
			if !none(r) {
				t.Fatalf("round %d: %s tells something", round, name)
			}
			if r.Err() != e || r.At() != at {
				t.Fatalf("round %d: behind %s Err %d, At %d", round, name, r.Err(), r.At())
			}
		}
	}
}

// P1.3: what is put, one behind the other, is read as it is, and then nothing is left.
func TestBack(t *testing.T) {
	var b []byte
	for _, s := range steps() {
		b = s.put(b)
	}
	r := bits.New(string(b))
	var ahead []byte
	for i, s := range steps() {
		if r.At() != len(ahead) || r.Left() != len(b)-len(ahead) {
			t.Fatalf("thing %d: At %d, Left %d, want %d, %d", i, r.At(), r.Left(), len(ahead), len(b)-len(ahead))
		}
		if e := r.End(); e != api.ErrForm || r.Err() != api.OK {
			t.Fatalf("thing %d: End %d, Err %d", i, e, r.Err())
		}
		if !s.take(r) {
			t.Fatalf("thing %d (%s) is not what was put; Err %d", i, s.name, r.Err())
		}
		ahead = s.put(ahead)
	}
	if r.At() != len(b) || r.Left() != 0 || r.Err() != api.OK || r.End() != api.OK {
		t.Errorf("at the end: At %d, Left %d, Err %d, End %d", r.At(), r.Left(), r.Err(), r.End())
	}
}

// P1.3: numbers of all sizes, one by one.
func TestBackNumbers(t *testing.T) {
	for _, n := range numbers() {
		for _, s := range []step{varintStep(n), zagStep(int64(n)), zagStep(-int64(n)), fixedStep(n&math.MaxUint32, 4), fixedStep(n, 8), byteStep(uint8(n))} {
			r := bits.New(string(s.put(nil)))
			if !s.take(r) || r.End() != api.OK {
				t.Errorf("%s of %d: End %d", s.name, n, r.End())
			}
		}
	}
}

// P1.6, P1.7: cut short anywhere, what was put is read up to there.
func TestCutShort(t *testing.T) {
	var b []byte
	var ends []int
	for _, s := range steps() {
		b = s.put(b)
		ends = append(ends, len(b))
	}
	for cut := range b {
		r := bits.New(string(b[:cut]))
		at := 0
		for i, s := range steps() {
			if ends[i] > cut {
				if !s.none(r) {
					t.Fatalf("cut at %d: thing %d (%s) tells something", cut, i, s.name)
				}
				checkStuck(t, r, at, cut-at, api.ErrShort)
				break
			}
			if !s.take(r) {
				t.Fatalf("cut at %d: thing %d (%s) is not what was put; Err %d", cut, i, s.name, r.Err())
			}
			at = ends[i]
		}
	}
}

// The table of errors, in its order; behind each one the reader stays (P1.7).
func TestReaderErrors(t *testing.T) {
	nine := strings.Repeat("\xFF", 9)
	cases := []struct {
		name, s string
		ask     func(r *bits.Reader) bool
		e       api.Errno
	}{
		{"Varint, no byte", "", func(r *bits.Reader) bool { return r.Varint(1) == 0 }, api.ErrShort},
		{"Varint, cut", "\xAC", func(r *bits.Reader) bool { return r.Varint(0) == 0 }, api.ErrShort},
		{"Varint, nine", nine, func(r *bits.Reader) bool { return r.Varint(0) == 0 }, api.ErrShort},
		{"Varint, ten", nine + "\xFF", func(r *bits.Reader) bool { return r.Varint(0) == 0 }, api.ErrForm},
		{"Varint, tenth 2", nine + "\x02", func(r *bits.Reader) bool { return r.Varint(math.MaxUint64) == 0 }, api.ErrForm},
		{"Varint, above", "\xAC\x02rest", func(r *bits.Reader) bool { return r.Varint(299) == 0 }, api.ErrTooLarge},
		{"Varint, above 0", "\x01", func(r *bits.Reader) bool { return r.Varint(0) == 0 }, api.ErrTooLarge},
		{"Varint, greatest", nine + "\x01", func(r *bits.Reader) bool { return r.Varint(math.MaxUint64-1) == 0 }, api.ErrTooLarge},
		{"Zag, no byte", "", func(r *bits.Reader) bool { return r.Zag(5, 6) == 0 }, api.ErrShort},
		{"Zag, cut", "\x80", func(r *bits.Reader) bool { return r.Zag(5, 6) == 0 }, api.ErrShort},
		{"Zag, ten", nine + "\x7F", func(r *bits.Reader) bool { return r.Zag(5, 6) == 0 }, api.ErrForm},
		{"Zag, below", "\x05", func(r *bits.Reader) bool { return r.Zag(-2, 5) == 0 }, api.ErrTooLarge},
		{"Zag, above", "\x0C", func(r *bits.Reader) bool { return r.Zag(-2, 5) == 0 }, api.ErrTooLarge},
		{"Zag, least", nine + "\x01", func(r *bits.Reader) bool { return r.Zag(math.MinInt64+1, math.MaxInt64) == 0 }, api.ErrTooLarge},
		{"Zag, greatest", "\xFE" + nine[1:] + "\x01", func(r *bits.Reader) bool { return r.Zag(math.MinInt64, math.MaxInt64-1) == 0 }, api.ErrTooLarge},
		{"Zag, least above most", "\x00", func(r *bits.Reader) bool { return r.Zag(1, -1) == 0 }, api.ErrTooLarge},
		{"Fixed, size and no byte", "", func(r *bits.Reader) bool { return r.Fixed(5) == 0 }, api.ErrArg},
		{"Fixed, size 0", "12345678", func(r *bits.Reader) bool { return r.Fixed(0) == 0 }, api.ErrArg},
		{"Fixed, size -4", "12345678", func(r *bits.Reader) bool { return r.Fixed(-4) == 0 }, api.ErrArg},
		{"Fixed 4, short", "123", func(r *bits.Reader) bool { return r.Fixed(4) == 0 }, api.ErrShort},
		{"Fixed 8, short", "1234567", func(r *bits.Reader) bool { return r.Fixed(8) == 0 }, api.ErrShort},
		{"Byte, short", "", func(r *bits.Reader) bool { return r.Byte() == 0 }, api.ErrShort},
		{"Raw, below 0", "", func(r *bits.Reader) bool { return r.Raw(-1) == "" }, api.ErrArg},
		{"Raw, least", "abc", func(r *bits.Reader) bool { return r.Raw(math.MinInt) == "" }, api.ErrArg},
		{"Raw, short", "abc", func(r *bits.Reader) bool { return r.Raw(4) == "" }, api.ErrShort},
		{"Raw, greatest", "abc", func(r *bits.Reader) bool { return r.Raw(math.MaxInt) == "" }, api.ErrShort},
		{"Text, no byte", "", func(r *bits.Reader) bool { return r.Text(-1) == "" }, api.ErrShort},
		{"Text, length cut", "\x83", func(r *bits.Reader) bool { return r.Text(3) == "" }, api.ErrShort},
		{"Text, length ten", nine + "\xFF", func(r *bits.Reader) bool { return r.Text(0) == "" }, api.ErrForm},
		{"Text, above", "\x03abc", func(r *bits.Reader) bool { return r.Text(2) == "" }, api.ErrTooLarge},
		{"Text, above and short", "\x03ab", func(r *bits.Reader) bool { return r.Text(2) == "" }, api.ErrTooLarge},
		{"Text, most below 0", "\x01a", func(r *bits.Reader) bool { return r.Text(-1) == "" }, api.ErrTooLarge},
		{"Text, most least", "\x01a", func(r *bits.Reader) bool { return r.Text(math.MinInt) == "" }, api.ErrTooLarge},
		{"Text, short", "\x03ab", func(r *bits.Reader) bool { return r.Text(3) == "" }, api.ErrShort},
		{"Text, greatest short", "\xFF" + nine[2:] + "\x7Fab", func(r *bits.Reader) bool { return r.Text(math.MaxInt) == "" }, api.ErrShort},
		{"Text, 2^64-1", nine + "\x01ab", func(r *bits.Reader) bool { return r.Text(math.MaxInt) == "" }, api.ErrTooLarge},
	}
	for _, c := range cases {
		t.Run(c.name, func(t *testing.T) {
			r := bits.New("\x07" + c.s)
			if r.Byte() != 7 || !c.ask(r) {
				t.Error("it tells something")
			}
			checkStuck(t, r, 1, len(c.s), c.e)
		})
	}
}

// P1.2: the ends of what is right.
func TestReaderEnds(t *testing.T) {
	r := bits.New("\xAC\x02" + "\x03\x0A" + "\x03abc" + "\x00\x00" + "rest")
	if n := r.Varint(300); n != 300 || r.At() != 2 {
		t.Errorf("Varint(300) = %d, At %d", n, r.At())
	}
	if n := r.Zag(-2, 5); n != -2 || r.At() != 3 {
		t.Errorf("Zag(-2, 5) = %d, At %d", n, r.At())
	}
	if n := r.Zag(-2, 5); n != 5 || r.At() != 4 {
		t.Errorf("Zag(-2, 5) = %d, At %d", n, r.At())
	}
	if s := r.Text(3); s != "abc" || r.At() != 8 {
		t.Errorf("Text(3) = %q, At %d", s, r.At())
	}
	if s := r.Text(0); s != "" || r.At() != 9 || r.Err() != api.OK {
		t.Errorf("Text(0) = %q, At %d, Err %d", s, r.At(), r.Err())
	}
	if s := r.Text(-1); s != "" || r.At() != 10 || r.Err() != api.OK {
		t.Errorf("Text(-1) = %q, At %d, Err %d", s, r.At(), r.Err())
	}
	if s := r.Raw(4); s != "rest" || r.Left() != 0 {
		t.Errorf("Raw(4) = %q, Left %d", s, r.Left())
	}
	if s := r.Raw(0); s != "" || r.End() != api.OK {
		t.Errorf("Raw(0) at the end = %q, End %d", s, r.End())
	}
}

// P1.2, R3: End takes nothing, so what is left can be read behind its ErrForm.
func TestEndChangesNothing(t *testing.T) {
	r := bits.New("ab")
	for i, want := range []uint8{'a', 'b'} {
		if e := r.End(); e != api.ErrForm || r.Err() != api.OK || r.At() != i {
			t.Errorf("ahead of byte %d: End %d, Err %d, At %d", i, e, r.Err(), r.At())
		}
		if c := r.Byte(); c != want {
			t.Errorf("byte %d = %d", i, c)
		}
	}
	if e := r.End(); e != api.OK {
		t.Errorf("End %d", e)
	}
}

// P1.7: the error is told ahead of what is left, and nothing takes its place.
func TestFirstErrorStays(t *testing.T) {
	r := bits.New("\x02ab")
	r.Raw(-1)
	checkStuck(t, r, 0, 3, api.ErrArg)
	r = bits.New("\x02ab")
	r.Varint(1)
	checkStuck(t, r, 0, 3, api.ErrTooLarge)
}

// P1.2: of nil it is 0, empty, ErrNil.
func TestReaderNil(t *testing.T) {
	var r *bits.Reader
	checkStuck(t, r, 0, 0, api.ErrNil)
}

// R1: a reader of nothing, made by New or not.
func TestReaderEmpty(t *testing.T) {
	for _, r := range []*bits.Reader{bits.New(""), new(bits.Reader)} {
		if r.Left() != 0 || r.At() != 0 || r.Err() != api.OK || r.End() != api.OK || r.Raw(0) != "" || r.Err() != api.OK {
			t.Errorf("Left %d, At %d, Err %d, End %d", r.Left(), r.At(), r.Err(), r.End())
		}
		r.Byte()
		checkStuck(t, r, 0, 0, api.ErrShort)
	}
}

// Two readers of one text know nothing of each other.
func TestReadersApart(t *testing.T) {
	a, b := bits.New("xy"), bits.New("xy")
	a.Byte()
	a.Raw(9)
	if b.At() != 0 || b.Err() != api.OK || b.Raw(2) != "xy" {
		t.Errorf("At %d, Err %d", b.At(), b.Err())
	}
	checkStuck(t, a, 1, 1, api.ErrShort)
}
