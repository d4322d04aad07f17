package proto_test

import (
	"math"
	"slices"
	"strings"
	"testing"

	"baton/api"
	"baton/proto"
)

// The chapter's examples.
func TestExamples(t *testing.T) {
	cases := []struct {
		f proto.Field
		s string
	}{{number(1, 300), "\x08\xAC\x02"}, {text(2, "ab"), "\x12\x02\x61\x62"}, {four(3, 1), "\x1D\x01\x00\x00\x00"}}
	for _, c := range cases {
		checkWrite(t, []proto.Field{c.f}, c.s, api.OK)
		checkRead(t, c.s, []proto.Field{c.f}, api.OK)
		checkSize(t, c.f, len(c.s))
	}
	checkRead(t, "\x88\x00\xAC\x82\x00", []proto.Field{number(1, 300)}, api.OK)
	checkRead(t, "\x08", nil, api.ErrShort)
	checkRead(t, "\x03", nil, api.ErrForm)
	checkRead(t, "\x00\x00", nil, api.ErrForm)
	checkRead(t, "\x12\x03\x61", nil, api.ErrShort)
}

// A value tells its wire type, whatever it is.
func TestWire(t *testing.T) {
	cases := []struct {
		v    proto.Value
		wire uint8
	}{
		{proto.Varint(0), 0}, {proto.Varint(math.MaxUint64), 0}, {proto.Eight(0), 1}, {proto.Eight(math.MaxUint64), 1},
		{proto.Text(""), 2}, {proto.Text("ab"), 2}, {proto.Four(0), 5}, {proto.Four(math.MaxUint32), 5},
	}
	for _, c := range cases {
		if got := c.v.Wire(); got != c.wire {
			t.Errorf("%T(%v).Wire() = %d; want %d", c.v, c.v, got, c.wire)
		}
	}
	if proto.MaxNum != 536870911 {
		t.Errorf("MaxNum = %d", proto.MaxNum)
	}
}

// ends are the ends of the fields' numbers, and what a field's first varint is, byte by byte, of wire type 0.
var ends = []struct {
	num int
	key string
}{
	{1, "\x08"}, {2, "\x10"}, {15, "\x78"}, {16, "\x80\x01"}, {2047, "\xF8\x7F"}, {2048, "\x80\x80\x01"},
	{1<<18 - 1, "\xF8\xFF\x7F"}, {1 << 18, "\x80\x80\x80\x01"}, {1<<25 - 1, "\xF8\xFF\xFF\x7F"}, {1 << 25, "\x80\x80\x80\x80\x01"},
	{proto.MaxNum - 1, "\xF0\xFF\xFF\xFF\x0F"}, {proto.MaxNum, "\xF8\xFF\xFF\xFF\x0F"},
}

// values are those at the ends of the four types, and how they are written.
func values() []struct {
	v proto.Value
	s string
} {
	abc := strings.Repeat("abc", 6000)
	return []struct {
		v proto.Value
		s string
	}{
		{proto.Varint(0), "\x00"}, {proto.Varint(1), "\x01"}, {proto.Varint(127), "\x7F"}, {proto.Varint(128), "\x80\x01"},
		{proto.Varint(16383), "\xFF\x7F"}, {proto.Varint(16384), "\x80\x80\x01"}, {proto.Varint(math.MaxUint32), "\xFF\xFF\xFF\xFF\x0F"},
		{proto.Varint(1 << 63), strings.Repeat("\x80", 9) + "\x01"}, {proto.Varint(1<<63 - 1), strings.Repeat("\xFF", 8) + "\x7F"},
		{proto.Varint(math.MaxUint64), strings.Repeat("\xFF", 9) + "\x01"},
		{proto.Eight(0), strings.Repeat("\x00", 8)}, {proto.Eight(1), "\x01" + strings.Repeat("\x00", 7)},
		{proto.Eight(127), "\x7F" + strings.Repeat("\x00", 7)}, {proto.Eight(128), "\x80" + strings.Repeat("\x00", 7)},
		{proto.Eight(0x0102030405060708), "\x08\x07\x06\x05\x04\x03\x02\x01"}, {proto.Eight(1 << 63), strings.Repeat("\x00", 7) + "\x80"},
		{proto.Eight(math.MaxUint64), strings.Repeat("\xFF", 8)},
		{proto.Text(""), "\x00"}, {proto.Text("a"), "\x01a"}, {proto.Text("\x00\xFF\x80"), "\x03\x00\xFF\x80"},
		{proto.Text(abc[:127]), "\x7F" + abc[:127]}, {proto.Text(abc[:128]), "\x80\x01" + abc[:128]},
		{proto.Text(abc[:16383]), "\xFF\x7F" + abc[:16383]}, {proto.Text(abc[:16384]), "\x80\x80\x01" + abc[:16384]},
		{proto.Four(0), "\x00\x00\x00\x00"}, {proto.Four(1), "\x01\x00\x00\x00"}, {proto.Four(127), "\x7F\x00\x00\x00"},
		{proto.Four(128), "\x80\x00\x00\x00"}, {proto.Four(0x01020304), "\x04\x03\x02\x01"}, {proto.Four(1 << 31), "\x00\x00\x00\x80"},
		{proto.Four(math.MaxUint32), "\xFF\xFF\xFF\xFF"},
	}
}

// wireOf is the wire type, without the package.
func wireOf(v proto.Value) byte {
	switch v.(type) {
	case proto.Eight:
		return 1
	case proto.Text:
		return 2
	case proto.Four:
		return 5
	}
	return 0
}

// P4.1: each number at its ends, with each value at its ends: may it be, its size, its bytes, and back.
func TestFieldAtEnds(t *testing.T) {
	for _, k := range ends {
		for _, v := range values() {
			f := proto.Field{Num: k.num, Val: v.v}
			s := string([]byte{k.key[0] | wireOf(v.v)}) + k.key[1:] + v.s
			checkMay(t, f, true)
			checkSize(t, f, len(s))
			checkWrite(t, []proto.Field{f}, s, api.OK)
			checkRead(t, s, []proto.Field{f}, api.OK)
		}
	}
}

// P4.1: nothing is a message of no fields.
func TestNothing(t *testing.T) {
	checkWrite(t, nil, "", api.OK)
	checkWrite(t, []proto.Field{}, "", api.OK)
	checkRead(t, "", nil, api.OK)
}

// P4.1: the fields of a message stand in their row, as often as they are there.
func TestRow(t *testing.T) {
	l := []proto.Field{number(9, 1), text(2, "b"), text(2, ""), four(1, 7), eight(2, 3), number(9, 1), text(2, "b"), number(1, 0)}
	s := "\x48\x01\x12\x01b\x12\x00\x0D\x07\x00\x00\x00\x11\x03\x00\x00\x00\x00\x00\x00\x00\x48\x01\x12\x01b\x08\x00"
	checkWrite(t, l, s, api.OK)
	checkRead(t, s, l, api.OK)
}

// P4.1: a field that may not be has no size, and is not written, wherever it stands.
func TestMayNot(t *testing.T) {
	for _, f := range wrongFields() {
		checkMay(t, f, false)
		checkSize(t, f, 0)
		for at := range 4 {
			checkWrite(t, slices.Insert([]proto.Field{number(1, 300), text(2, "ab"), four(3, 1)}, at, f), "", api.ErrForm)
		}
		checkWrite(t, []proto.Field{f}, "", api.ErrForm)
		checkWrite(t, []proto.Field{f, f}, "", api.ErrForm)
	}
	checkMay(t, proto.Field{}, false)
}

// The row of Read: what a field's first varint may not be; what stands behind is not looked at, be it right or wrong.
func TestReadKey(t *testing.T) {
	var keys []string
	for wire := range uint64(8) {
		keys = append(keys, varint(wire), longer(wire, 2), longer(wire, 10)) // number 0
		for _, n := range []uint64{1 << 32, 1<<32 + 8, 1<<32 + 1<<31, 1 << 35, 1<<63 + 8, math.MaxUint64 - 7} {
			keys = append(keys, varint(n+wire), longer(n+wire, 10))
		}
		if wire == 3 || wire == 4 || wire >= 6 {
			for _, num := range []uint64{1, 15, 16, 2047, 2048, proto.MaxNum} {
				keys = append(keys, varint(num*8+wire), longer(num*8+wire, 10))
			}
		}
	}
	nine := strings.Repeat("\x80", 9)
	keys = append(keys, nine+"\x02", nine+"\x80", nine+"\xFF", strings.Repeat("\xFF", 10))
	for _, s := range keys {
		for _, ahead := range []string{"", "\x08\x01", "\x12\x02ab\x1D\x01\x00\x00\x00"} {
			for _, behind := range []string{"", "\x00", "\x08", "\x08\x01", "\x80", strings.Repeat("\xFF", 12), strings.Repeat("\x00", 20)} {
				checkRead(t, ahead+s+behind, nil, api.ErrForm)
			}
		}
	}
}

// The row of Read: a first varint that is cut short is so, whatever it says so far; one whose tenth byte may not be is so.
func TestReadKeyShort(t *testing.T) {
	for n := 1; n <= 9; n++ {
		for _, b := range []string{"\x80", "\x83", "\x88", "\xFF"} {
			checkRead(t, strings.Repeat(b, n), nil, api.ErrShort)
			checkRead(t, "\x08\x01"+strings.Repeat(b, n), nil, api.ErrShort)
		}
	}
}

// The row of Read: what a value may not be.
func TestReadValue(t *testing.T) {
	nine, ten := strings.Repeat("\xFF", 9), strings.Repeat("\xFF", 10)
	cases := []struct {
		s string
		e api.Errno
	}{
		{"\x08", api.ErrShort}, {"\x08\x80", api.ErrShort}, {"\x08" + nine, api.ErrShort},
		{"\x08" + nine + "\x02", api.ErrForm}, {"\x08" + ten, api.ErrForm}, {"\x08" + nine + "\x80\x00", api.ErrForm},
		{"\x09", api.ErrShort}, {"\x09" + strings.Repeat("\x01", 7), api.ErrShort}, {"\x09\x01\x00\x00\x00", api.ErrShort},
		{"\x0D", api.ErrShort}, {"\x0D\x01\x02\x03", api.ErrShort},
		{"\x0A", api.ErrShort}, {"\x0A\x80", api.ErrShort}, {"\x0A" + nine, api.ErrShort}, {"\x0A" + nine + "\x02", api.ErrForm},
		{"\x0A" + ten, api.ErrForm}, {"\x0A" + nine + "\x80\x00", api.ErrForm},
		{"\x0A\x01", api.ErrShort}, {"\x0A\x02a", api.ErrShort}, {"\x0A\x81\x00", api.ErrShort},
	}
	for _, c := range cases {
		checkRead(t, c.s, nil, c.e)
		checkRead(t, "\x12\x02ab\x08\x01"+c.s, nil, c.e)
	}
}

// The row of Read: a text's length that is greater than what is left is too few bytes, however great it is.
func TestReadLength(t *testing.T) {
	for _, behind := range []string{"", "a", strings.Repeat("\x08\x01", 100)} {
		left := uint64(len(behind))
		lengths := []uint64{left + 1, left + 2, left + 256, left + 1<<32, left + 1<<63, 1 << 31, 1<<31 - 1, 1<<32 - 1, 1 << 32, 1 << 40,
			1<<62 - 1, 1<<63 - 2, 1<<63 - 1, 1 << 63, 1<<63 + 1, math.MaxUint64 - left, math.MaxUint64 - 1, math.MaxUint64}
		for _, n := range lengths {
			checkRead(t, "\x0A"+longer(n, 10)+behind, nil, api.ErrShort)
			checkRead(t, "\x0A"+varint(n)+behind, nil, api.ErrShort)
			checkRead(t, "\x08\x05\x12"+varint(n)+behind, nil, api.ErrShort)
		}
		checkRead(t, "\x0A"+varint(left)+behind, []proto.Field{text(1, proto.Text(behind))}, api.OK)
	}
}

// R2: of several errors it is the first one's, field by field.
func TestReadOrder(t *testing.T) {
	ten := strings.Repeat("\xFF", 10)
	cases := []struct {
		s string
		e api.Errno
	}{
		{"\x08\x80", api.ErrShort},                   // a value cut short
		{"\x00\x80", api.ErrForm},                    // number 0, and a value cut short
		{"\x02\x05a", api.ErrForm},                   // number 0, and fewer bytes than the length says
		{"\x05\x01", api.ErrForm},                    // number 0, and fewer bytes than four
		{"\x01", api.ErrForm},                        // number 0, and no bytes
		{"\x80\x80\x80\x80\x10\x80", api.ErrForm},    // 2^32, and a value cut short
		{"\x8A\x80\x80\x80\x10\x05a", api.ErrForm},   // above 2^32, and fewer bytes than the length says
		{"\x0B", api.ErrForm},                        // a wire type that is none, and nothing behind
		{"\x83\x80", api.ErrShort},                   // a first varint cut short, that began as a wire type that is none
		{"\x03\x12\x03a", api.ErrForm},               // a wrong field, and one that is cut short
		{"\x12\x03a\x03", api.ErrShort},              // a text that is cut short: what may be wrong is in it
		{"\x12\x05a\x03\x00\x00", api.ErrShort},      // likewise
		{"\x08\x01\x0A\x01", api.ErrShort},           // a right one, one cut short
		{"\x0A" + ten + "\x03", api.ErrForm},         // a length that may not be, and a wrong field
		{"\x0A\xFF\xFF\xFF\x7F\x03", api.ErrShort},   // a length too great, and a wrong field
		{"\x0D\x03\x03\x03", api.ErrShort},           // too few bytes, that are wrong fields
		{"\x08" + ten[:9] + "\x01\x0B", api.ErrForm}, // a right one, a wrong one
	}
	for _, c := range cases {
		checkRead(t, c.s, nil, c.e)
	}
}

// P4.1: Read against a plain reader: all messages of up to five of some bytes, and longer ones that are spoilt.
func TestReadPlain(t *testing.T) {
	bytes := "\x00\x01\x02\x05\x07\x08\x0A\x0D\x80\x83\xFF"
	var all func(s string, more int)
	all = func(s string, more int) {
		l, e := plainRead(s)
		checkRead(t, s, l, e)
		for i := 0; more > 0 && i < len(bytes); i++ {
			all(s+bytes[i:i+1], more-1)
		}
	}
	all("", 5)
	r := newRow()
	for range 20000 {
		b := []byte(written(r.fields(1 + r.below(5))))
		for range r.below(3) {
			b[r.below(len(b))] = byte(r.next() >> 40)
		}
		l, e := plainRead(string(b))
		checkRead(t, string(b), l, e)
	}
}

// P4.3: what is written is read as the same fields, by as many bytes as their sizes are.
func TestBack(t *testing.T) {
	r := newRow()
	for count := range 300 {
		l := r.fields(count)
		s, e := proto.Write(l)
		if e != api.OK || s != written(l) {
			t.Fatalf("Write(%s) = %.60x, %d; want %.60x", tell(l), s, e, written(l))
		}
		size := 0
		for _, f := range l {
			checkMay(t, f, true)
			size += proto.Size(f)
		}
		if size != len(s) {
			t.Errorf("%s: the sizes are %d; there are %d bytes", tell(l), size, len(s))
		}
		checkRead(t, s, l, api.OK)
	}
}

// P4.3: what is read, and written, is read so, too, and not longer; here of messages that are longer than must be.
func TestBackFromBytes(t *testing.T) {
	r := newRow()
	for range 2000 {
		l := r.fields(1 + r.below(8))
		s := drawnOut(l, r)
		got, e := proto.Read(s)
		if e != api.OK || !equal(got, l) {
			t.Fatalf("Read(%.60x) = %s, %d; want %s", s, tell(got), e, tell(l))
		}
		again, e := proto.Write(got)
		if e != api.OK || len(again) > len(s) || again != written(l) {
			t.Errorf("Write(%s) = %.60x, %d; it was read from %.60x", tell(got), again, e, s)
		}
		checkRead(t, again, got, api.OK)
	}
}

// drawnOut is a message whose varints have some bytes more than must be.
func drawnOut(l []proto.Field, r *row) string {
	long := func(n uint64) string {
		least := len(varint(n))
		return longer(n, least+r.below(11-least))
	}
	var b strings.Builder
	for _, f := range l {
		b.WriteString(long(uint64(f.Num)*8 + uint64(wireOf(f.Val))))
		switch x := f.Val.(type) {
		case proto.Varint:
			b.WriteString(long(uint64(x)))
		case proto.Eight:
			b.WriteString(low(uint64(x), 8))
		case proto.Text:
			b.WriteString(long(uint64(len(x))) + string(x))
		case proto.Four:
			b.WriteString(low(uint64(x), 4))
		}
	}
	return b.String()
}

// P4.4: a message, and another one behind it, is the fields of both.
func TestOneBehindTheOther(t *testing.T) {
	r := newRow()
	messages := []string{"", "\x08\x01", "\x88\x00\xAC\x82\x00", "\x12\x00", "\x12\x02ab\x1D\x01\x00\x00\x00", written(r.fields(20)), written(r.fields(3))}
	for _, a := range messages {
		for _, b := range messages {
			of, e := proto.Read(a)
			behind, e2 := proto.Read(b)
			if e != api.OK || e2 != api.OK {
				t.Fatalf("Read(%.40x), Read(%.40x): %d, %d", a, b, e, e2)
			}
			both := slices.Concat(of, behind)
			checkRead(t, a+b, both, api.OK)
			sa, _ := proto.Write(of)
			sb, _ := proto.Write(behind)
			checkWrite(t, both, sa+sb, api.OK)
		}
	}
}

// P4.5: cut short at a field's end a message is the fields ahead; anywhere else it is too short.
func TestCutShort(t *testing.T) {
	r := newRow()
	lists := [][]proto.Field{
		{number(1, 300), text(2, "ab"), four(3, 1), eight(16, 258), text(2048, ""), number(proto.MaxNum, math.MaxUint64), text(1, proto.Text(strings.Repeat("\x00", 200)))},
		{text(1, "\x08\x01\x08\x01"), number(1, 0)}, r.fields(40),
	}
	for _, l := range lists {
		parts := make([]string, len(l))
		for i := range l {
			parts[i] = drawnOut(l[i:i+1], r)
		}
		ahead := ""
		for i, part := range parts {
			checkRead(t, ahead, l[:i], api.OK)
			for cut := 1; cut < len(part); cut++ {
				checkRead(t, ahead+part[:cut], nil, api.ErrShort)
			}
			ahead += part
		}
		checkRead(t, ahead, l, api.OK)
	}
}

// P4.6: varints of more bytes than must be, of the first varint, a value, and a length, come to the same fields.
func TestLonger(t *testing.T) {
	for _, num := range []int{1, 15, 16, 2047, 2048, proto.MaxNum} {
		for _, n := range []uint64{0, 1, 127, 128, 300, 1 << 62, math.MaxUint64} {
			for size := 1; size <= 10; size++ {
				key := longer(uint64(num)*8, max(size, len(varint(uint64(num)*8))))
				checkRead(t, key+varint(n), []proto.Field{number(num, proto.Varint(n))}, api.OK)
				checkRead(t, key+longer(n, max(size, len(varint(n)))), []proto.Field{number(num, proto.Varint(n))}, api.OK)
				checkRead(t, longer(uint64(num)*8+1, max(size, 5))+low(n, 8), []proto.Field{eight(num, proto.Eight(n))}, api.OK)
				checkRead(t, longer(uint64(num)*8+5, max(size, 5))+low(n, 4), []proto.Field{four(num, proto.Four(n))}, api.OK)
			}
		}
		for _, s := range []string{"", "a", strings.Repeat("ab", 100)} {
			for size := 2; size <= 10; size++ {
				key := varint(uint64(num)*8 + 2)
				checkRead(t, key+longer(uint64(len(s)), size)+s, []proto.Field{text(num, proto.Text(s))}, api.OK)
			}
		}
	}
	checkRead(t, "\x08"+strings.Repeat("\x80", 10)+"\x00", nil, api.ErrForm)
	checkRead(t, "\x0A"+strings.Repeat("\x80", 10)+"\x00", nil, api.ErrForm)
	checkRead(t, "\x88"+strings.Repeat("\x80", 9)+"\x00\x01", nil, api.ErrForm)
}

// R1: what is handed in to Write stays; also if it is refused.
func TestWriteStays(t *testing.T) {
	l := newRow().fields(50)
	kept := slices.Clone(l)
	for range 2 {
		checkWrite(t, l, written(kept), api.OK)
	}
	l = append(l, proto.Field{})
	checkWrite(t, l, "", api.ErrForm)
	if !equal(l[:50], kept) {
		t.Error("Write has changed what was handed in")
	}
}

// R1: what Read tells is a list of its own, each time.
func TestReadApart(t *testing.T) {
	s := written([]proto.Field{number(1, 1), text(2, "ab")})
	a, _ := proto.Read(s)
	b, _ := proto.Read(s)
	a[0], a[1] = four(9, 9), four(8, 8)
	if !equal(b, []proto.Field{number(1, 1), text(2, "ab")}) {
		t.Errorf("one list of fields is in another: %s", tell(b))
	}
}
