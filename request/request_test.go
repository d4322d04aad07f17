package request_test

import (
	"math"
	"slices"
	"strings"
	"testing"

	"baton/api"
	"baton/request"
)

// The chapter's examples.
func TestExamples(t *testing.T) {
	l := list(both(ofLabels(label("a", "b")), sample(2, 1)))
	checkBack(t, l, "\x0A\x15\x0A\x06\x0A\x01a\x12\x01b\x12\x0B\x09\x01\x00\x00\x00\x00\x00\x00\x00\x10\x02")
	checkBack(t, list(api.Series{}), "\x0A\x00")
	checkBack(t, nil, "")
	checkRead(t, "\x0A\x01", nil, api.ErrShort)
	checkRead(t, "\x08\x01", nil, api.ErrForm)
	checkRead(t, "\x10\x01", nil, api.OK)
}

// P6.1: series without labels, without samples, without both; no series; lists of nothing.
func TestNothing(t *testing.T) {
	checkBack(t, []api.Series{}, "")
	checkBack(t, list(ofLabels(label("a", "b"))), "\x0A\x08\x0A\x06\x0A\x01a\x12\x01b")
	checkBack(t, list(ofSamples(sample(2, 1))), "\x0A\x0D\x12\x0B\x09\x01\x00\x00\x00\x00\x00\x00\x00\x10\x02")
	checkBack(t, list(api.Series{}, api.Series{Labels: []api.Label{}, Samples: []api.Sample{}}, api.Series{}), "\x0A\x00\x0A\x00\x0A\x00")
	checkBack(t, list(ofLabels(api.Label{})), "\x0A\x02\x0A\x00")
	checkBack(t, list(ofSamples(api.Sample{})), "\x0A\x02\x12\x00")
	checkBack(t, list(both(ofLabels(api.Label{}, api.Label{}), api.Sample{}, api.Sample{}), api.Series{}), "\x0A\x08\x0A\x00\x0A\x00\x12\x00\x12\x00\x0A\x00")
}

// P6.1: the row of series, of labels, of samples is kept, whatever it is, and as often as they are there.
func TestRow(t *testing.T) {
	l := list(
		both(ofLabels(label("b", "x"), label("a", "y"), label("b", "x")), sample(9, 1), sample(3, 2), sample(9, 1)),
		ofLabels(label("a", "")), both(ofLabels(label("", "b")), sample(0, 7)), ofLabels(label("a", "")), ofSamples(sample(7, 0)))
	s := "\x0A\x3F\x0A\x06\x0A\x01b\x12\x01x\x0A\x06\x0A\x01a\x12\x01y\x0A\x06\x0A\x01b\x12\x01x" +
		"\x12\x0B\x09\x01\x00\x00\x00\x00\x00\x00\x00\x10\x09\x12\x0B\x09\x02\x00\x00\x00\x00\x00\x00\x00\x10\x03\x12\x0B\x09\x01\x00\x00\x00\x00\x00\x00\x00\x10\x09" +
		"\x0A\x05\x0A\x03\x0A\x01a" +
		"\x0A\x10\x0A\x03\x12\x01b\x12\x09\x09\x07\x00\x00\x00\x00\x00\x00\x00" +
		"\x0A\x05\x0A\x03\x0A\x01a" +
		"\x0A\x04\x12\x02\x10\x07"
	checkBack(t, l, s)
}

// P6.1, P6.3: any text is a name, and a value; what is empty is left out.
func TestLabels(t *testing.T) {
	var all []api.Series
	for _, name := range oddTexts() {
		for _, value := range oddTexts() {
			x := ofLabels(label(name, value))
			checkBack(t, list(x), plainRequest(list(x)))
			if len(name)+len(value) < 300 {
				all = append(all, x, ofLabels(label(value, name), label(name, value), label(name, name)))
			}
		}
	}
	checkBack(t, all, plainRequest(all))
}

// P6.1, P6.3: any signed number of 64 bits is a time, and any 64 bits are a value's.
func TestSamples(t *testing.T) {
	var all []api.Sample
	for _, time := range oddTimes() {
		for _, bits := range oddBits() {
			x := sample(time, bits)
			checkBack(t, list(ofSamples(x)), plainRequest(list(ofSamples(x))))
			all = append(all, x)
		}
	}
	checkBack(t, list(ofSamples(all...)), plainRequest(list(ofSamples(all...))))
}

// P6.1: how times and bits stand there, byte by byte: a time below 0 is 64 bits, and no zigzag.
func TestSampleBytes(t *testing.T) {
	nine := strings.Repeat("\xFF", 9)
	cases := []struct {
		time int64
		s    string
	}{
		{1, "\x01"}, {127, "\x7F"}, {128, "\x80\x01"}, {300, "\xAC\x02"}, {api.MaxTime, "\x80\x80\x80\x80\x80\x80\x80\x02"},
		{math.MaxInt64, nine[1:] + "\x7F"}, {-1, nine + "\x01"}, {-2, "\xFE" + nine[1:] + "\x01"}, {math.MinInt64, strings.Repeat("\x80", 9) + "\x01"},
	}
	for _, c := range cases {
		s := "\x10" + c.s
		head := string([]byte{'\x0A', byte(len(s) + 2), '\x12', byte(len(s))})
		checkBack(t, list(ofSamples(sample(c.time, 0))), head+s)
	}
	checkBack(t, list(ofSamples(sample(0, math.MaxUint64))), "\x0A\x0B\x12\x09\x09"+nine[1:])
	checkBack(t, list(ofSamples(sample(0, 0x0102030405060708))), "\x0A\x0B\x12\x09\x09\x08\x07\x06\x05\x04\x03\x02\x01")
	checkBack(t, list(ofSamples(sample(0, 1<<63))), "\x0A\x0B\x12\x09\x09\x00\x00\x00\x00\x00\x00\x00\x80")
}

// P6.3: what is encoded is decoded as it is.
func TestBack(t *testing.T) {
	r := newRow()
	for range 2000 {
		l := r.list()
		checkBack(t, l, plainRequest(l))
	}
}

// P6.3, P6.5, P6.6: of fields in another row, in more bytes than must be, with others among them, and some that do not
// count, come the same series; they are encoded as they are otherwise, and that is not longer.
func TestMixed(t *testing.T) {
	r := newRow()
	longer := 0
	for range 3000 {
		l := r.list()
		s := ""
		for _, x := range l {
			if r.below(4) == 0 {
				s += r.other(2)
			}
			s += r.longText(1, r.mixed(x))
		}
		checkRead(t, s, l, api.OK)
		checkPlain(t, s)
		got, _ := request.Decode(s)
		short := request.Encode(got)
		if short != plainRequest(l) || len(short) > len(s) {
			t.Errorf("Decode, and Encode, of %s: %s", bytesOf(s), bytesOf(short))
		}
		if again, e := request.Decode(short); e != api.OK || !request.Same(again, got) {
			t.Errorf("Decode(%s) = %s, %d; want %s", bytesOf(short), tell(again), e, tell(got))
		}
		if len(short) < len(s) {
			longer++
		}
	}
	if longer < 1000 {
		t.Errorf("only %d were longer", longer)
	}
}

// P6.4: a request, and another one behind it, has the series of both; one that is wrong behind one that is right is wrong.
func TestBehind(t *testing.T) {
	r := newRow()
	for range 500 {
		a, b, c := r.list(), r.list(), r.list()
		s := request.Encode(a) + request.Encode(b) + request.Encode(c)
		if want := request.Encode(slices.Concat(a, b, c)); s != want {
			t.Errorf("one behind the other: %s; want %s", bytesOf(s), bytesOf(want))
		}
		checkRead(t, s, slices.Concat(a, b, c), api.OK)
		checkRead(t, s+"\x0A\x02\x08\x01"+s, slices.Concat(a, b, c), api.ErrForm)
		checkRead(t, s+"\x08\x01"+s, nil, api.ErrForm)
		checkRead(t, s+"\x0A", nil, api.ErrShort)
	}
}

// P6.6: of fields that are there twice the last one counts, also if it is empty, or 0; one that is not there is empty, or 0.
func TestLast(t *testing.T) {
	names := []struct {
		s string
		x api.Label
	}{
		{"", label("", "")}, {text(1, "a"), label("a", "")}, {text(2, "b"), label("", "b")}, {text(2, "b") + text(1, "a"), label("a", "b")},
		{text(1, "a") + text(1, "c"), label("c", "")}, {text(1, "a") + text(1, ""), label("", "")}, {text(1, "") + text(1, "a"), label("a", "")},
		{text(2, "a") + text(2, "c"), label("", "c")}, {text(2, "a") + text(2, ""), label("", "")}, {text(2, "") + text(2, "a"), label("", "a")},
		{text(1, "a") + text(2, "b") + text(1, "c") + text(2, "d") + text(1, "e"), label("e", "d")},
		{text(1, "a") + text(2, "b") + text(1, "") + text(1, "") + text(2, ""), label("", "")},
	}
	for _, c := range names {
		checkRead(t, text(1, text(1, c.s)), list(ofLabels(c.x)), api.OK)
		checkRead(t, text(1, text(1, c.s)+text(1, "")+text(1, c.s)), list(ofLabels(c.x, label("", ""), c.x)), api.OK)
	}
	minus := uint64(math.MaxUint64)
	samples := []struct {
		s string
		x api.Sample
	}{
		{"", sample(0, 0)}, {eight(1, 7), sample(0, 7)}, {number(2, 7), sample(7, 0)}, {number(2, 5) + eight(1, 7), sample(5, 7)},
		{eight(1, 7) + eight(1, 8), sample(0, 8)}, {eight(1, 7) + eight(1, 0), sample(0, 0)}, {eight(1, 0) + eight(1, minus), sample(0, minus)},
		{number(2, 7) + number(2, minus), sample(-1, 0)}, {number(2, 7) + number(2, 0), sample(0, 0)}, {number(2, 0) + number(2, 7), sample(7, 0)},
		{eight(1, 1) + number(2, 2) + eight(1, 3) + number(2, 4) + eight(1, 5), sample(4, 5)},
		{number(2, minus) + eight(1, minus) + number(2, 0) + eight(1, 0), sample(0, 0)},
	}
	for _, c := range samples {
		checkRead(t, text(1, text(2, c.s)), list(ofSamples(c.x)), api.OK)
		checkRead(t, text(1, text(2, c.s)+text(2, "")+text(2, c.s)), list(ofSamples(c.x, sample(0, 0), c.x)), api.OK)
	}
}

// P6.1: labels ahead of, behind, and between samples are the same; likewise series do not mix.
func TestAmong(t *testing.T) {
	a, b := text(1, plainLabel(label("a", "b"))), text(1, plainLabel(label("c", "")))
	x, y := text(2, plainSample(sample(1, 2))), text(2, plainSample(sample(3, 0)))
	want := both(ofLabels(label("a", "b"), label("c", "")), sample(1, 2), sample(3, 0))
	for _, s := range []string{a + b + x + y, x + y + a + b, x + a + y + b, a + x + b + y, a + x + y + b, x + a + b + y} {
		checkRead(t, text(1, s), list(want), api.OK)
		checkRead(t, text(1, s)+text(1, x)+text(1, s)+text(1, b), list(want, ofSamples(sample(1, 2)), want, ofLabels(label("c", ""))), api.OK)
	}
}

// Keys, lengths, and times in more bytes than must be are the same, at each place.
func TestLonger(t *testing.T) {
	want := list(both(ofLabels(label("a", "b")), sample(300, 1)))
	for size := 1; size <= 10; size++ {
		for at := range 14 {
			count := 0
			long := func(n uint64) string { // the place that it is the turn of
				count++
				if count == at+1 {
					return longer(n, max(size, len(varint(n))))
				}
				return varint(n)
			}
			put := func(num uint64, s string) string { return long(num*8+2) + long(uint64(len(s))) + s }
			l := put(1, put(1, "a")+put(2, "b"))
			x := put(2, long(9)+low(1, 8)+long(16)+long(300))
			checkRead(t, put(1, l+x), want, api.OK)
			if count != 13 {
				t.Fatalf("%d places", count)
			}
		}
	}
}

// P6.1: Same tells of one name, value, time, bits, of the rows, and of how many there are.
func TestSame(t *testing.T) {
	a := list(both(ofLabels(label("a", "b"), label("c", "d")), sample(1, 2), sample(3, 4)), both(ofLabels(label("e", "f")), sample(5, 6)))
	checkSame(t, a, cloned(a), true)
	unlike := [][]api.Series{nil, {}, a[:1], a[1:], {a[1], a[0]}, {a[0], a[0]}, {a[1], a[1]}, {a[0], a[1], a[1]}, {a[0], a[1], {}}, {{}, a[0], a[1]}, {a[0], {}}, {{}, {}}}
	change := func(how func(l []api.Series)) {
		l := cloned(a)
		how(l)
		unlike = append(unlike, l)
	}
	change(func(l []api.Series) { l[0].Labels[0].Name = "A" })
	change(func(l []api.Series) { l[0].Labels[0].Name = "" })
	change(func(l []api.Series) { l[0].Labels[1].Name = "cc" })
	change(func(l []api.Series) { l[0].Labels[0].Value = "B" })
	change(func(l []api.Series) { l[1].Labels[0].Value = "" })
	change(func(l []api.Series) { l[0].Labels[0] = label("b", "a") })
	change(func(l []api.Series) { l[0].Labels[0] = label("ab", "") })
	change(func(l []api.Series) { l[0].Samples[0].Time = -1 })
	change(func(l []api.Series) { l[0].Samples[1].Time = 3 + 1<<32 })
	change(func(l []api.Series) { l[1].Samples[0].Time = 0 })
	change(func(l []api.Series) { l[0].Samples[0].Bits = 2 + 1<<63 })
	change(func(l []api.Series) { l[1].Samples[0].Bits = 0 })
	change(func(l []api.Series) { l[0].Samples[0] = sample(2, 1) })
	change(func(l []api.Series) { slices.Reverse(l[0].Labels) })
	change(func(l []api.Series) { slices.Reverse(l[0].Samples) })
	change(func(l []api.Series) { l[0].Labels = l[0].Labels[:1] })
	change(func(l []api.Series) { l[0].Samples = l[0].Samples[:1] })
	change(func(l []api.Series) { l[0].Samples = l[0].Samples[1:] })
	change(func(l []api.Series) { l[1].Labels = nil })
	change(func(l []api.Series) { l[1].Samples = nil })
	change(func(l []api.Series) { l[0].Labels = append(l[0].Labels, label("e", "f")) })
	change(func(l []api.Series) { l[1].Samples = append(l[1].Samples, api.Sample{}) })
	change(func(l []api.Series) { l[0].Labels, l[1].Labels = l[1].Labels, l[0].Labels })
	change(func(l []api.Series) { l[0].Samples, l[1].Samples = l[1].Samples, l[0].Samples })
	for i, b := range unlike {
		checkSame(t, a, b, false)
		for j, c := range unlike {
			checkSame(t, b, c, i == j || len(b)+len(c) == 0)
		}
	}
}

// P6.1, R1: nothing and an empty list are the same; bits are held against each other as bits, be they no number.
func TestSameAlike(t *testing.T) {
	checkSame(t, nil, nil, true)
	checkSame(t, nil, []api.Series{}, true)
	checkSame(t, list(api.Series{}), list(api.Series{Labels: []api.Label{}, Samples: []api.Sample{}}), true)
	checkSame(t, list(both(ofLabels(label("a", "b")))), list(api.Series{Labels: []api.Label{label("a", "b")}, Samples: []api.Sample{}}), true)
	checkSame(t, list(ofSamples(sample(1, 2))), list(api.Series{Labels: []api.Label{}, Samples: []api.Sample{sample(1, 2)}}), true)
	checkSame(t, nil, list(api.Series{}), false)
	none := math.Float64bits(math.NaN())
	checkSame(t, list(ofSamples(sample(1, none))), list(ofSamples(sample(1, none))), true)
	checkSame(t, list(ofSamples(sample(1, none))), list(ofSamples(sample(1, none+1))), false)
	checkSame(t, list(ofSamples(sample(1, 0))), list(ofSamples(sample(1, 1<<63))), false)
}

// P6.1: Count is of all series.
func TestCount(t *testing.T) {
	checkCount(t, nil, 0, 0)
	checkCount(t, []api.Series{}, 0, 0)
	checkCount(t, make([]api.Series, 5), 0, 0)
	checkCount(t, list(ofLabels(label("", ""))), 1, 0)
	checkCount(t, list(ofSamples(sample(0, 0))), 0, 1)
	l := list(ofLabels(label("a", "b"), label("a", "b")), api.Series{}, both(ofLabels(label("c", "")), make([]api.Sample, 7)...), ofSamples(sample(1, 2)))
	checkCount(t, l, 3, 8)
	many := make([]api.Series, 3000)
	for i := range many {
		many[i] = both(ofLabels(make([]api.Label, i%5)...), make([]api.Sample, i%7)...)
	}
	checkCount(t, many, 3000/5*10, 3000/7*21+(0+1+2+3))
}

// Many series, and many labels and samples of one, and long texts, are encoded and decoded soon.
func TestMany(t *testing.T) {
	const count = 200000
	checkMany(t, make([]api.Series, count))
	checkMany(t, list(ofLabels(make([]api.Label, count)...)))
	checkMany(t, list(ofSamples(make([]api.Sample, count)...)))
	checkMany(t, list(ofLabels(label(strings.Repeat("a", 1<<22), strings.Repeat("b", 1<<22)))))
	var l []api.Series
	for i := range count / 10 {
		l = append(l, both(ofLabels(label("a", low(uint64(i), 8)), label("b", "c")), sample(int64(i), uint64(i)), sample(-int64(i), 1)))
	}
	checkMany(t, l)
	s := strings.Repeat(text(1, "a"), count)
	checkRead(t, text(1, text(1, s+text(1, "b"))), list(ofLabels(label("b", ""))), api.OK)
}

func checkMany(t *testing.T, l []api.Series) {
	t.Helper()
	s := request.Encode(l)
	if s != plainRequest(l) {
		t.Errorf("Encode(%s) = %s", tell(l), bytesOf(s))
	}
	if got, e := request.Decode(s); e != api.OK || !equal(got, l) {
		t.Errorf("Decode(%s) = %s, %d", bytesOf(s), tell(got), e)
	}
}

// R1: what is handed in stays, also what lies behind it.
func TestStays(t *testing.T) {
	r := newRow()
	for range 200 {
		room := append(r.list(), r.series(), r.series())
		for i := range room {
			room[i].Labels = append(room[i].Labels, label("behind", "x"))
			room[i].Samples = append(room[i].Samples, sample(1, 1))
		}
		kept := cloned(room)
		l := slices.Clone(room[:len(room)-1])
		for i := range l {
			l[i].Labels, l[i].Samples = l[i].Labels[:len(l[i].Labels)-1], l[i].Samples[:len(l[i].Samples)-1]
		}
		request.Encode(l)
		request.Same(l, room)
		request.Same(room, l)
		request.Count(l)
		if !equal(room, kept) {
			t.Errorf("what was handed in is now %s; it was %s", tell(room), tell(kept))
		}
	}
}

// R1: no two lists of what Decode tells share memory, nor have they room that is another one's.
func TestApart(t *testing.T) {
	r := newRow()
	for range 200 {
		l := r.list()
		s := request.Encode(l)
		got, _ := request.Decode(s)
		again, _ := request.Decode(s)
		for i := range got {
			keptBehind := cloned(got[i+1:])
			keptAhead := cloned(got[:i])
			x := &got[i]
			for j := range x.Labels {
				x.Labels[j] = label("x", "y")
			}
			for j := range x.Samples {
				x.Samples[j] = sample(-5, 5)
			}
			_ = append(x.Labels, label("x", "y"), label("x", "y"))
			_ = append(x.Samples, sample(-5, 5), sample(-5, 5))
			if !equal(got[i+1:], keptBehind) || !equal(got[:i], keptAhead) {
				t.Errorf("series of %s share memory", bytesOf(s))
			}
		}
		_ = append(got, r.series(), r.series())
		if !equal(again, l) {
			t.Errorf("two lists of %s share memory", bytesOf(s))
		}
	}
}
