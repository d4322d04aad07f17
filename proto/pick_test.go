package proto_test

import (
	"slices"
	"testing"

	"baton/api"
	"baton/proto"
)

// differ are fields that may be, none the same as another one.
func differ() []proto.Field {
	var l []proto.Field
	for _, num := range []int{1, 2, 16, proto.MaxNum} {
		for _, n := range []uint64{0, 1, 127, 128, 1<<32 - 1} {
			l = append(l, number(num, proto.Varint(n)), eight(num, proto.Eight(n)), four(num, proto.Four(n)), text(num, proto.Text(low(n, 4))))
		}
		l = append(l, text(num, ""), text(num, "\x00"), text(num, "\x01"), number(num, 1<<32), eight(num, 1<<32), number(num, 1<<63), eight(num, 1<<63))
	}
	return l
}

// P4.1: fields are the same by their number, their type, and what is in it.
func TestSameField(t *testing.T) {
	l := differ()
	for i, a := range l {
		for j, b := range l {
			checkSame(t, []proto.Field{a}, []proto.Field{b}, i == j)
		}
	}
}

// P4.1: lists are the same by their length, and their row.
func TestSameRow(t *testing.T) {
	a, b, c := number(1, 5), text(2, "b"), four(1, 5)
	list := [][]proto.Field{nil, {a}, {b}, {a, b}, {b, a}, {a, a}, {a, b, c}, {a, c, b}, {c, b, a}, {a, b, b}, {a, b, c, a}}
	for i, x := range list {
		for j, y := range list {
			checkSame(t, x, slices.Clone(y), i == j)
		}
	}
	checkSame(t, nil, []proto.Field{}, true)
	checkSame(t, []proto.Field{}, []proto.Field{}, true)
	many := newRow().fields(1000)
	checkSame(t, many, slices.Clone(many), true)
	for _, i := range []int{0, 1, 500, 999} {
		other := slices.Clone(many)
		other[i].Num++
		checkSame(t, many, other, false)
	}
}

// P4.1: a field that may not be is the same as none: not as itself, nor as one that may be, nor as nothing.
func TestSameMayNot(t *testing.T) {
	wrong := wrongFields()
	for _, f := range wrong {
		checkSame(t, []proto.Field{f}, []proto.Field{f}, false)
		checkSame(t, []proto.Field{f}, nil, false)
		checkSame(t, []proto.Field{number(1, 1), f}, []proto.Field{number(1, 1)}, false)
		checkSame(t, []proto.Field{f, number(1, 1)}, []proto.Field{number(1, 1)}, false)
		checkSame(t, []proto.Field{number(1, 1), f, text(2, "")}, []proto.Field{number(1, 1), f, text(2, "")}, false)
		for _, v := range []proto.Value{proto.Varint(1), proto.Eight(1), proto.Eight(2), proto.Text("a"), proto.Four(1), proto.Four(3)} {
			checkSame(t, []proto.Field{f}, []proto.Field{{Num: 1, Val: v}}, false)
			checkSame(t, []proto.Field{f}, []proto.Field{{Num: max(f.Num, 1), Val: v}}, false)
		}
		for _, g := range wrong {
			checkSame(t, []proto.Field{f}, []proto.Field{g}, false)
		}
	}
}

// P4.2: a value as one of each type.
func TestAs(t *testing.T) {
	for _, n := range []uint64{0, 1, 127, 128, 1<<32 - 1, 1 << 63, 1<<64 - 1} {
		checkAs(t, proto.Varint(n), proto.Varint(n), true)
		checkAs(t, proto.Varint(n), proto.Eight(0), false)
		checkAs(t, proto.Varint(n), proto.Text(""), false)
		checkAs(t, proto.Varint(n), proto.Four(0), false)
		checkAs(t, proto.Eight(n), proto.Eight(n), true)
		checkAs(t, proto.Eight(n), proto.Varint(0), false)
		checkAs(t, proto.Eight(n), proto.Text(""), false)
		checkAs(t, proto.Eight(n), proto.Four(0), false)
		checkAs(t, proto.Four(n), proto.Four(n), true)
		checkAs(t, proto.Four(n), proto.Varint(0), false)
		checkAs(t, proto.Four(n), proto.Eight(0), false)
		checkAs(t, proto.Four(n), proto.Text(""), false)
	}
	for _, s := range []proto.Text{"", "a", "\x00\xFF"} {
		checkAs(t, s, s, true)
		checkAs(t, s, proto.Varint(0), false)
		checkAs(t, s, proto.Eight(0), false)
		checkAs(t, s, proto.Four(0), false)
	}
}

// P4.2: what is no value is none as any of the four types.
func TestAsMayNot(t *testing.T) {
	for _, v := range wrongValues() {
		checkAs(t, v, proto.Varint(0), false)
		checkAs(t, v, proto.Eight(0), false)
		checkAs(t, v, proto.Text(""), false)
		checkAs(t, v, proto.Four(0), false)
	}
	if v, ok := proto.As[proto.Value](nil); v != nil || ok {
		t.Errorf("As of none = %v, %t", v, ok)
	}
	if v, ok := proto.As[proto.Value](proto.Four(1)); v != proto.Value(proto.Four(1)) || !ok {
		t.Errorf("As of a value = %v, %t", v, ok)
	}
}

// P4.2: the values of the fields of a number, of each type, whatever has another number.
func TestPick(t *testing.T) {
	var l []proto.Field
	for i, n := range []uint64{5, 0, 128, 5, 7} {
		l = append(l, number(1, proto.Varint(n)), eight(2, proto.Eight(n)), text(3, proto.Text(low(n, 8)[:i])), four(4, proto.Four(n)))
	}
	checkPick(t, l, 1, []proto.Varint{5, 0, 128, 5, 7}, api.OK)
	checkPick(t, l, 2, []proto.Eight{5, 0, 128, 5, 7}, api.OK)
	checkPick(t, l, 3, []proto.Text{"", "\x00", "\x80\x00", "\x05\x00\x00", "\x07\x00\x00\x00"}, api.OK)
	checkPick(t, l, 4, []proto.Four{5, 0, 128, 5, 7}, api.OK)
	checkPick(t, l[:4], 1, []proto.Varint{5}, api.OK)
	checkPick(t, l[:6], 2, []proto.Eight{5, 0}, api.OK)
	checkPick(t, []proto.Field{text(3, "a"), text(3, "")}, 3, []proto.Text{"a", ""}, api.OK)
}

// checkNone asks for a number that no field has, as each type.
func checkNone(t *testing.T, l []proto.Field, num int) {
	t.Helper()
	checkPick[proto.Varint](t, l, num, nil, api.OK)
	checkPick[proto.Eight](t, l, num, nil, api.OK)
	checkPick[proto.Text](t, l, num, nil, api.OK)
	checkPick[proto.Four](t, l, num, nil, api.OK)
}

// P4.2: of a number that no field has there is none, and that is no error.
func TestPickNone(t *testing.T) {
	l := []proto.Field{number(1, 1), eight(1, 1), text(2, "a"), four(16, 1)}
	for _, num := range append(wrongNums(), 3, 15, 17, 2048, proto.MaxNum) {
		checkNone(t, l, num)
		checkNone(t, nil, num)
		checkNone(t, []proto.Field{}, num)
	}
}

// The row of All and Last: some field of that number has another type's value, wherever it stands.
func TestPickOtherType(t *testing.T) {
	right := []proto.Field{number(1, 7), eight(2, 7), text(3, "b"), four(4, 7)}
	for _, v := range append(wrongValues(), proto.Varint(1), proto.Eight(1), proto.Text("a"), proto.Four(1)) {
		for num := 1; num <= 4; num++ {
			if isType(v, num) {
				continue
			}
			wrong := proto.Field{Num: num, Val: v}
			for _, l := range [][]proto.Field{{wrong}, slices.Concat([]proto.Field{wrong}, right), slices.Concat(right, []proto.Field{wrong}), slices.Concat(right, []proto.Field{wrong}, right), {wrong, wrong}} {
				checkOf(t, l, num, false)
			}
		}
	}
}

// P4.2: what else stands there is not looked at: other types, and fields that may not be.
func TestPickElse(t *testing.T) {
	right := []proto.Field{number(1, 7), eight(2, 7), text(3, "b"), four(4, 7)}
	for _, v := range append(wrongValues(), proto.Varint(1), proto.Eight(1), proto.Text("a"), proto.Four(1)) {
		for _, num := range append(wrongNums(), 5, 2048, proto.MaxNum) {
			other := proto.Field{Num: num, Val: v}
			for _, l := range [][]proto.Field{slices.Concat([]proto.Field{other}, right), slices.Concat(right, []proto.Field{other, other})} {
				for asked := 1; asked <= 4; asked++ {
					checkOf(t, l, asked, true)
				}
				checkNone(t, l, 6)
			}
		}
	}
}

// isType tells whether a value is of the type that the fields of a number have in these tests.
func isType(v proto.Value, num int) bool {
	switch v.(type) {
	case proto.Varint:
		return num == 1
	case proto.Eight:
		return num == 2
	case proto.Text:
		return num == 3
	case proto.Four:
		return num == 4
	}
	return false
}

// checkOf picks the fields of one of the numbers 1 to 4 as the type that they have in these tests: there is one value, or an error.
func checkOf(t *testing.T, l []proto.Field, num int, ok bool) {
	t.Helper()
	switch {
	case num == 1 && ok:
		checkPick(t, l, 1, []proto.Varint{7}, api.OK)
	case num == 1:
		checkPick[proto.Varint](t, l, 1, nil, api.ErrForm)
	case num == 2 && ok:
		checkPick(t, l, 2, []proto.Eight{7}, api.OK)
	case num == 2:
		checkPick[proto.Eight](t, l, 2, nil, api.ErrForm)
	case num == 3 && ok:
		checkPick(t, l, 3, []proto.Text{"b"}, api.OK)
	case num == 3:
		checkPick[proto.Text](t, l, 3, nil, api.ErrForm)
	case ok:
		checkPick(t, l, 4, []proto.Four{7}, api.OK)
	default:
		checkPick[proto.Four](t, l, 4, nil, api.ErrForm)
	}
}

// P4.2: a field whose number may not be has it all the same, for who asks for that number.
func TestPickWrongNumber(t *testing.T) {
	for _, num := range wrongNums() {
		l := []proto.Field{number(num, 1), text(1, "a"), number(num, 2)}
		checkPick(t, l, num, []proto.Varint{1, 2}, api.OK)
		checkPick[proto.Text](t, l, num, nil, api.ErrForm)
		checkOthers(t, l, l[1:2], num)
	}
}

// P4.2: the fields of other numbers than none, one, and several.
func TestOthers(t *testing.T) {
	a, b, c, d, e := number(1, 5), text(2, "b"), text(1, "c"), four(16, 5), eight(proto.MaxNum, 0)
	l := []proto.Field{a, b, c, d, e, a}
	checkOthers(t, l, l)
	checkOthers(t, l, l, []int{}...)
	checkOthers(t, l, []proto.Field{b, d, e}, 1)
	checkOthers(t, l, []proto.Field{a, c, d, e, a}, 2)
	checkOthers(t, l, []proto.Field{a, b, c, d, a}, proto.MaxNum)
	checkOthers(t, l, l, 3)
	checkOthers(t, l, l, 0, -1, proto.MaxNum+1)
	checkOthers(t, l, []proto.Field{d, e}, 1, 2)
	checkOthers(t, l, []proto.Field{d, e}, 2, 1, 2, 7)
	checkOthers(t, l, []proto.Field{b}, 16, proto.MaxNum, 1)
	checkOthers(t, l, nil, 1, 2, 16, proto.MaxNum)
	checkOthers(t, nil, nil)
	checkOthers(t, nil, nil, 1, 2)
}

// P4.2: fields that may not be are told by Others as any are.
func TestOthersMayNot(t *testing.T) {
	for _, v := range wrongValues() {
		l := []proto.Field{{Num: 3, Val: v}, number(1, 1), {Num: 0, Val: v}}
		for _, c := range []struct{ known, want []int }{{nil, []int{3, 1, 0}}, {[]int{1}, []int{3, 0}}, {[]int{3}, []int{1, 0}}, {[]int{0}, []int{3, 1}}, {[]int{0, 3}, []int{1}}} {
			var nums []int
			for _, f := range proto.Others(l, c.known...) {
				nums = append(nums, f.Num)
			}
			if !slices.Equal(nums, c.want) {
				t.Errorf("Others(%s, %v) has the numbers %v; want %v", tell(l), c.known, nums, c.want)
			}
		}
	}
}

// Many numbers, of many fields, end soon.
func TestOthersMany(t *testing.T) {
	const count = 300000
	l, known := make([]proto.Field, count), make([]int, count)
	for i := range l {
		l[i], known[i] = number(i+1, 0), 2*i+2
	}
	got := proto.Others(l, known...)
	if len(got) != count/2 || got[0].Num != 1 || got[count/2-1].Num != count-1 {
		t.Errorf("Others tells %s", tell(got))
	}
}

// R1: what is handed in to Others, All, Last and Same stays, and what they tell is a list of its own.
func TestPickApart(t *testing.T) {
	room := []proto.Field{number(1, 1), number(1, 2), number(2, 3), number(9, 9)}
	l, known := room[:3], []int{2, 1, 7}
	kept, keptKnown := slices.Clone(room), slices.Clone(known)
	for _, o := range [][]proto.Field{proto.Others(l), proto.Others(l, 7), proto.Others(l, 2), proto.Others(l, known...)} {
		for i := range o {
			o[i] = text(5, "x")
		}
		_ = append(o, text(5, "y")) // nor may there be room behind it that is not its own
	}
	v, _ := proto.All[proto.Varint](l, 1)
	v[0] = 100
	proto.Last[proto.Varint](l, 1)
	proto.Same(l, kept)
	if !equal(room, kept) || !slices.Equal(known, keptKnown) {
		t.Errorf("what was handed in is now %s, %v", tell(room), known)
	}
}

// P4.7: a field behind others is the last one of its number, and all of that number are those of the others, and it,
// whatever stands in between of other numbers; also as bytes.
func TestLastOne(t *testing.T) {
	r := newRow()
	for range 300 {
		var l []proto.Field
		var numbers []proto.Varint
		var eights []proto.Eight
		var texts []proto.Text
		var fours []proto.Four
		for i := range 20 {
			n := r.next()
			f := []proto.Field{number(1, proto.Varint(n)), eight(2, proto.Eight(n)), text(3, proto.Text(low(n, 8)[:i%9])), four(4, proto.Four(n)), r.field()}[r.below(5)]
			if f.Num <= 4 && !isType(f.Val, f.Num) {
				continue
			}
			l = append(l, f)
			switch f.Num {
			case 1:
				numbers = append(numbers, f.Val.(proto.Varint))
			case 2:
				eights = append(eights, f.Val.(proto.Eight))
			case 3:
				texts = append(texts, f.Val.(proto.Text))
			case 4:
				fours = append(fours, f.Val.(proto.Four))
			}
			read, e := proto.Read(written(l))
			if e != api.OK {
				t.Fatalf("Read of %s: %d", tell(l), e)
			}
			for _, l := range [][]proto.Field{l, read} {
				checkPick(t, l, 1, numbers, api.OK)
				checkPick(t, l, 2, eights, api.OK)
				checkPick(t, l, 3, texts, api.OK)
				checkPick(t, l, 4, fours, api.OK)
			}
		}
	}
}
