package proto_test

import (
	"encoding/binary"
	"fmt"
	"math"
	"slices"
	"strings"
	"testing"

	"baton/api"
	"baton/proto"
)

// row is a fixed row of numbers without a plain rule.
type row uint64

func newRow() *row {
	r := row(88172645463325252)
	return &r
}

func (r *row) next() uint64 {
	*r ^= *r << 13
	*r ^= *r >> 7
	*r ^= *r << 17
	return uint64(*r)
}

// below is a number from 0 on, below end.
func (r *row) below(end int) int { return int(r.next() >> 33 % uint64(end)) }

// field is one that may be, of any number and any of the four types, small ones and great ones.
func (r *row) field() proto.Field {
	num := 1 + int(r.next()>>35>>r.below(29))
	n := r.next() >> r.below(64)
	switch r.below(4) {
	case 0:
		return proto.Field{Num: num, Val: proto.Varint(n)}
	case 1:
		return proto.Field{Num: num, Val: proto.Eight(n)}
	case 2:
		return proto.Field{Num: num, Val: proto.Four(n)}
	default:
		return proto.Field{Num: num, Val: proto.Text(low(n, 8)[:r.below(9)])}
	}
}

// fields are so many of them.
func (r *row) fields(count int) []proto.Field {
	l := make([]proto.Field, count)
	for i := range l {
		l[i] = r.field()
	}
	return l
}

// The types of another package, none of which is a value, whatever it says of its wire type.
type (
	sayer    uint64                 // it says that it is a varint
	texter   string                 // it says that it is a text
	panicker struct{}               // it can't be asked
	caller   func() uint8           // likewise, if it is nil; and it can't be held against another one
	unlikely []int                  // two of them can't be held against each other
	keeper   struct{ proto.Varint } // it has its method from a value
	holder   struct{ proto.Value }  // likewise; if there is one
)

func (sayer) Wire() uint8    { return 0 }
func (texter) Wire() uint8   { return 2 }
func (panicker) Wire() uint8 { panic("not to be asked") }
func (c caller) Wire() uint8 { return c() }
func (unlikely) Wire() uint8 { return 2 }

// wrongValues may not be: none, pointers, and other packages' types.
func wrongValues() []proto.Value {
	v, e, t, f := proto.Varint(1), proto.Eight(2), proto.Text("a"), proto.Four(3)
	return []proto.Value{
		nil, &v, &e, &t, &f, (*proto.Varint)(nil), (*proto.Eight)(nil), (*proto.Text)(nil), (*proto.Four)(nil),
		sayer(1), texter("a"), panicker{}, &panicker{}, caller(nil), unlikely{1}, unlikely(nil),
		keeper{1}, &keeper{1}, (*keeper)(nil), holder{proto.Four(1)}, holder{},
	}
}

// wrongNums are no numbers of fields.
func wrongNums() []int {
	return []int{0, -1, -8, math.MinInt, math.MinInt32, -proto.MaxNum, proto.MaxNum + 1, 1 << 30, 1 << 31, 1 << 32, 1<<61 + 1, math.MaxInt}
}

// wrongFields may not be.
func wrongFields() []proto.Field {
	var l []proto.Field
	for _, v := range wrongValues() {
		l = append(l, proto.Field{Num: 1, Val: v}, proto.Field{Num: proto.MaxNum, Val: v}, proto.Field{Num: 0, Val: v})
	}
	for _, num := range wrongNums() {
		for _, v := range []proto.Value{proto.Varint(1), proto.Eight(1), proto.Text("a"), proto.Four(1)} {
			l = append(l, proto.Field{Num: num, Val: v})
		}
	}
	return l
}

func varint(n uint64) string { return string(binary.AppendUvarint(nil, n)) }

// longer is a varint in so many bytes, as many as must be or more, 10 at most.
func longer(n uint64, size int) string {
	b := make([]byte, size)
	for i := range b {
		b[i] = byte(n) | 0x80
		n >>= 7
	}
	b[size-1] &= 0x7F
	return string(b)
}

// low is a number in so many bytes, the lowest one first.
func low(n uint64, size int) string {
	return string(binary.LittleEndian.AppendUint64(nil, n)[:size])
}

func number(num int, v proto.Varint) proto.Field { return proto.Field{Num: num, Val: v} }
func eight(num int, v proto.Eight) proto.Field   { return proto.Field{Num: num, Val: v} }
func text(num int, v proto.Text) proto.Field     { return proto.Field{Num: num, Val: v} }
func four(num int, v proto.Four) proto.Field     { return proto.Field{Num: num, Val: v} }

// written is a message, written without the package; its fields may be.
func written(l []proto.Field) string {
	var b strings.Builder
	for _, f := range l {
		num := uint64(f.Num)
		switch x := f.Val.(type) {
		case proto.Varint:
			b.WriteString(varint(num*8) + varint(uint64(x)))
		case proto.Eight:
			b.WriteString(varint(num*8+1) + low(uint64(x), 8))
		case proto.Text:
			b.WriteString(varint(num*8+2) + varint(uint64(len(x))) + string(x))
		case proto.Four:
			b.WriteString(varint(num*8+5) + low(uint64(x), 4))
		}
	}
	return b.String()
}

// plainVarint is the varint at the begin of a text, and what stands behind it.
func plainVarint(s string) (n uint64, rest string, e api.Errno) {
	for i := range 10 {
		if i == len(s) {
			return 0, "", api.ErrShort
		}
		if i == 9 && s[i] > 1 {
			return 0, "", api.ErrForm
		}
		n += uint64(s[i]%128) << (7 * i)
		if s[i] < 128 {
			return n, s[i+1:], api.OK
		}
	}
	panic("the tenth byte is the last one")
}

// plainRead is what Read is to answer, row by row as the table of errors says.
func plainRead(s string) ([]proto.Field, api.Errno) {
	var l []proto.Field
	for s != "" {
		n, rest, e := plainVarint(s)
		if e != api.OK {
			return nil, e
		}
		wire := n & 7
		if n > math.MaxUint32 || n < 8 || wire == 3 || wire == 4 || wire > 5 {
			return nil, api.ErrForm
		}
		f := proto.Field{Num: int(n / 8)}
		switch wire {
		case 0:
			if n, rest, e = plainVarint(rest); e != api.OK {
				return nil, e
			}
			f.Val = proto.Varint(n)
		case 1:
			if len(rest) < 8 {
				return nil, api.ErrShort
			}
			f.Val, rest = proto.Eight(binary.LittleEndian.Uint64([]byte(rest))), rest[8:]
		case 5:
			if len(rest) < 4 {
				return nil, api.ErrShort
			}
			f.Val, rest = proto.Four(binary.LittleEndian.Uint32([]byte(rest))), rest[4:]
		case 2:
			if n, rest, e = plainVarint(rest); e != api.OK {
				return nil, e
			}
			if n > uint64(len(rest)) {
				return nil, api.ErrShort
			}
			f.Val, rest = proto.Text(rest[:n]), rest[n:]
		}
		l = append(l, f)
		s = rest
	}
	return l, api.OK
}

// equal holds lists of fields that may be against each other without the package.
func equal(a, b []proto.Field) bool { return slices.Equal(a, b) }

func checkRead(t *testing.T, s string, l []proto.Field, e api.Errno) {
	t.Helper()
	got, gotE := proto.Read(s)
	if gotE != e || !equal(got, l) {
		t.Errorf("Read(%.60x) (%d bytes) = %s, %d; want %s, %d", s, len(s), tell(got), gotE, tell(l), e)
	}
	if e == api.OK && !proto.Same(got, l) {
		t.Errorf("Read(%.60x) is not the same as %s", s, tell(l))
	}
}

func checkWrite(t *testing.T, l []proto.Field, s string, e api.Errno) {
	t.Helper()
	if got, gotE := proto.Write(l); got != s || gotE != e {
		t.Errorf("Write(%s) = %.60x (%d bytes), %d; want %.60x (%d bytes), %d", tell(l), got, len(got), gotE, s, len(s), e)
	}
}

func checkSize(t *testing.T, f proto.Field, n int) {
	t.Helper()
	if got := proto.Size(f); got != n {
		t.Errorf("Size(%s) = %d; want %d", tell([]proto.Field{f}), got, n)
	}
}

func checkMay(t *testing.T, f proto.Field, want bool) {
	t.Helper()
	if got := proto.May(f); got != want {
		t.Errorf("May(%s) = %t", tell([]proto.Field{f}), got)
	}
}

func checkSame(t *testing.T, a, b []proto.Field, want bool) {
	t.Helper()
	if got := proto.Same(a, b); got != want {
		t.Errorf("Same(%s, %s) = %t", tell(a), tell(b), got)
	}
	if got := proto.Same(b, a); got != want {
		t.Errorf("Same(%s, %s) = %t", tell(b), tell(a), got)
	}
}

func checkAs[T interface {
	comparable
	proto.Value
}](t *testing.T, v proto.Value, want T, wantOK bool) {
	t.Helper()
	if got, ok := proto.As[T](v); got != want || ok != wantOK {
		t.Errorf("As[%T](%T) = %.40v, %t; want %.40v, %t", want, v, got, ok, want, wantOK)
	}
}

// checkPick asks for all values of a number, and for the last one.
func checkPick[T interface {
	comparable
	proto.Value
}](t *testing.T, l []proto.Field, num int, want []T, e api.Errno) {
	t.Helper()
	var last T
	if len(want) > 0 {
		last = want[len(want)-1]
	}
	if got, gotE := proto.All[T](l, num); gotE != e || !slices.Equal(got, want) {
		t.Errorf("All[%T](%s, %d) = %v, %d; want %v, %d", last, tell(l), num, got, gotE, want, e)
	}
	got, ok, gotE := proto.Last[T](l, num)
	if got != last || ok != (len(want) > 0) || gotE != e {
		t.Errorf("Last[%T](%s, %d) = %v, %t, %d; want %v, %t, %d", last, tell(l), num, got, ok, gotE, last, len(want) > 0, e)
	}
}

func checkOthers(t *testing.T, l []proto.Field, want []proto.Field, known ...int) {
	t.Helper()
	if got := proto.Others(l, known...); !equal(got, want) {
		t.Errorf("Others(%s, %v) = %s; want %s", tell(l), known, tell(got), tell(want))
	}
}

// tell tells the first fields, short; values are not asked for anything.
func tell(l []proto.Field) string {
	var b strings.Builder
	for i, f := range l {
		if i == 6 {
			b.WriteString(" ..")
			break
		}
		fmt.Fprintf(&b, " %d %T", f.Num, f.Val)
		switch x := f.Val.(type) {
		case proto.Varint, proto.Eight, proto.Four:
			fmt.Fprintf(&b, " %d;", x)
		case proto.Text:
			fmt.Fprintf(&b, " %.20q;", string(x))
		default:
			b.WriteString(";")
		}
	}
	return fmt.Sprintf("[%s ] (%d)", b.String(), len(l))
}
