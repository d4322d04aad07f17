package snappy_test

import (
	"math"
	"slices"
	"strings"
	"testing"

	"baton/api"
	"baton/snappy"
)

// The chapter's examples.
func TestExamples(t *testing.T) {
	checkEncode(t, "", "\x00", api.OK)
	checkEncode(t, "abc", "\x03\x08abc", api.OK)
	checkEncode(t, "abcabcabc", "\x09\x08abc\x09\x03", api.OK)
	checkEncode(t, strings.Repeat("a", 10), "\x0A\x00a\x15\x01", api.OK)
	checkDecode(t, "\x05\x01\x01", 100, "", api.ErrForm)
	checkMatch(t, "abcabcabc", 3, 3, 6)
}

// P3.1: what a block says; what stands behind is not looked at.
func TestSize(t *testing.T) {
	for _, n := range []int{0, 1, 127, 128, 300, 65536, math.MaxInt32, math.MaxUint32 - 1, math.MaxUint32} {
		for _, behind := range []string{"", "\x00", "\xFF\xFF", "\x08abc"} {
			checkSize(t, length(n)+behind, uint64(n), api.OK)
		}
	}
	checkSize(t, "\xAC\x82\x80\x80\x80\x80\x80\x80\x80\x00", 300, api.OK)
}

// The row of Size, in its order; each other call that takes a block has it, too.
func TestSizeErrors(t *testing.T) {
	nine := strings.Repeat("\xFF", 9)
	cases := []struct {
		s string
		e api.Errno
	}{
		{"", api.ErrShort}, {"\x80", api.ErrShort}, {"\xFF\xFF\xFF\xFF", api.ErrShort}, {nine, api.ErrShort},
		{nine + "\x02", api.ErrForm}, {nine + "\xFF", api.ErrForm}, {nine + "\x80\x00", api.ErrForm},
		{length(1 << 32), api.ErrForm}, {length(1<<32 + 1), api.ErrForm}, {nine + "\x01", api.ErrForm},
		{strings.Repeat("\x80", 9) + "\x01", api.ErrForm},
		{length(1<<32) + "\x08abc", api.ErrForm}, {length(1<<32) + "\x08ab", api.ErrForm},
	}
	for _, c := range cases {
		checkSize(t, c.s, 0, c.e)
		checkParts(t, c.s, nil, c.e)
		for _, most := range []int{math.MinInt, -1, 0, 100, math.MaxInt} {
			checkDecode(t, c.s, most, "", c.e)
		}
	}
}

// P3.1: each form of an element, at its ends; what they say need not hold.
func TestPartsForms(t *testing.T) {
	cases := []struct {
		s string
		p snappy.Part
	}{
		{"\x00x", lit("x")}, {"\x04xy", lit("xy")}, {"\xEC" + unlike(60), lit(unlike(60))},
		{"\xF0\x3C" + unlike(61), lit(unlike(61))}, {"\xF0\xFF" + unlike(256), lit(unlike(256))},
		{"\xF4\x00\x01" + unlike(257), lit(unlike(257))}, {"\xF4\xFF\xFF" + unlike(65536), lit(unlike(65536))},
		{"\xF8\x00\x00\x01" + unlike(65537), lit(unlike(65537))}, {"\xFC\x00\x00\x00\x01" + unlike(1<<24+1), lit(unlike(1<<24 + 1))},
		{"\x01\x01", again(1, 4)}, {"\x1D\x01", again(1, 11)}, {"\xE1\xFF", again(2047, 4)}, {"\xFD\xFF", again(2047, 11)},
		{"\x21\x00", again(256, 4)}, {"\x81\x00", again(1024, 4)}, {"\x09\x03", again(3, 6)},
		{"\x02\x01\x00", again(1, 1)}, {"\x0A\x01\x00", again(1, 3)}, {"\x2E\x00\x08", again(2048, 12)},
		{"\xFE\xFF\xFF", again(65535, 64)}, {"\x0E\x00\x08", again(2048, 4)}, {"\xFE\x01\x00", again(1, 64)},
		{"\x03\x01\x00\x00\x00", again(1, 1)}, {"\x07\x00\x00\x01\x00", again(65536, 2)},
		{"\xFF\x78\x56\x34\x12", again(0x12345678, 64)}, {"\xFF\xFF\xFF\xFF\xFF", again(1<<32-1, 64)},
		{"\x01\x00", again(0, 4)}, {"\x02\x00\x00", again(0, 1)}, {"\xFF\x00\x00\x00\x00", again(0, 64)},
	}
	for _, c := range cases {
		for _, size := range []int{0, 1, 4, math.MaxUint32} {
			checkParts(t, length(size)+c.s, []snappy.Part{c.p}, api.OK)
		}
		if len(c.s) < 1000 {
			checkParts(t, "\x00"+c.s+c.s+"\x00z", []snappy.Part{c.p, c.p, lit("z")}, api.OK)
		}
	}
	checkParts(t, "\x00", nil, api.OK)
	checkParts(t, length(math.MaxUint32), nil, api.OK)
}

// The row of Parts: cut within an element is ErrShort, and nothing is told; cut ahead of one it is what stands ahead.
func TestPartsCut(t *testing.T) {
	list := []string{"\x08abc", "\x09\x03", "\x0A\x01\x00", "\xFF\x01\x00\x00\x00", longLit("long", 1), longLit("long", 2), longLit("long", 3), longLit("long", 4), "\x01\x00"}
	want := []snappy.Part{lit("abc"), again(3, 6), again(1, 3), again(1, 64), lit("long"), lit("long"), lit("long"), lit("long"), again(0, 4)}
	block := length(300)
	for i, s := range list {
		checkParts(t, block, want[:i], api.OK)
		for cut := 1; cut < len(s); cut++ {
			checkParts(t, block+s[:cut], nil, api.ErrShort)
		}
		block += s
	}
	checkParts(t, block, want, api.OK)
	for _, s := range []string{"\xFC\xFF\xFF\xFF\xFF", "\xFC\xFF\xFF\xFF\x7F", "\xF8\xFF\xFF\xFF", "\xF4\xFF\xFF"} {
		checkParts(t, "\x00"+s+unlike(1000), nil, api.ErrShort)
	}
}

// P3.1: a block decodes; elements in a longer form than must be do, too, and so does a longer varint.
func TestDecodeLonger(t *testing.T) {
	for size := 1; size <= 4; size++ {
		for _, n := range []int{1, 2, 60, 61, 256} {
			s := unlike(n)
			checkDecode(t, length(n)+longLit(s, size), n, s, api.OK)
			checkParts(t, length(n)+longLit(s, size), []snappy.Part{lit(s)}, api.OK)
		}
	}
	for _, n := range []int{1, 3, 4, 11, 12, 64} {
		want := "abc" + strings.Repeat("abc", 30)[:n]
		for _, s := range []string{copy2(3, n), copy4(3, n)} {
			checkDecode(t, length(3+n)+"\x08abc"+s, 3+n, want, api.OK)
			checkParts(t, length(3+n)+"\x08abc"+s, []snappy.Part{lit("abc"), again(3, n)}, api.OK)
		}
	}
	checkDecode(t, "\x83\x80\x00\x08abc", 3, "abc", api.OK)
	checkDecode(t, "\x80\x00", 0, "", api.OK)
	checkDecode(t, "\x03\x00a\x00b\x00c", 3, "abc", api.OK)
}

// P3.1: texts of more than MaxRaw bytes decode, if there may be as many.
func TestDecodeLarge(t *testing.T) {
	s := unlike(70000)
	block := length(70064) + longLit(s, 3) + copy4(70000, 64)
	checkDecode(t, block, 70064, s+s[:64], api.OK)
	checkDecode(t, block, 70063, "", api.ErrTooLarge)
	checkDecode(t, block, api.MaxRaw, "", api.ErrTooLarge)
}

// The row of Decode: how many bytes there may be.
func TestDecodeMost(t *testing.T) {
	checkDecode(t, "\x00", 0, "", api.OK)
	checkDecode(t, "\x00", -1, "", api.ErrTooLarge)
	checkDecode(t, "\x00", math.MinInt, "", api.ErrTooLarge)
	block := "\x09\x08abc\x09\x03"
	for _, most := range []int{9, 10, 1000, math.MaxInt} {
		checkDecode(t, block, most, "abcabcabc", api.OK)
	}
	for _, most := range []int{8, 1, 0, -1, -9, math.MinInt} {
		checkDecode(t, block, most, "", api.ErrTooLarge)
	}
	checkDecode(t, length(math.MaxUint32), math.MaxInt, "", api.ErrForm)
	checkDecode(t, length(math.MaxUint32), math.MaxUint32-1, "", api.ErrTooLarge)
	checkDecode(t, length(math.MaxUint32)+"\x08abc\x09\x03", math.MaxInt, "", api.ErrForm)
}

// The row of Decode: what an element may not be.
func TestDecodeForm(t *testing.T) {
	forms := []string{
		"\x04\x01\x01", "\x01\x02\x01\x00", "\x01\x03\x01\x00\x00\x00", // nothing is there yet
		"\x05\x00a\x01\x00", "\x02\x00a\x02\x00\x00", "\x02\x00a\x03\x00\x00\x00\x00", // an Off of 0
		"\x05\x00a\x01\x02", "\x02\x00a\x02\x02\x00", "\x02\x00a\x03\x02\x00\x00\x00", // one byte too far
		"\x05\x00a\x21\x01", "\x02\x00a\x02\x01\x01", "\x02\x00a\x03\x01\x00\x00\x80", "\x02\x00a\x03\xFF\xFF\xFF\xFF", "\x02\x00a\x03\x01\x00\x00\x01",
		"\x00\x00a", "\x02\x08abc", "\x04\x00a\x01\x01", "\x01\x00a\x02\x01\x00", "\x03\x08abc\x00d", "\x03\x08abc\x02\x01\x00", // more
		"\x03\x08abc\x01\x04", "\x01", "\x04\x08abc", "\x06\x00a\x01\x01", "\xFF\x7F\x08abc", // fewer
	}
	for _, s := range forms {
		for _, most := range []int{1 << 20, math.MaxInt} {
			checkDecode(t, s, most, "", api.ErrForm)
		}
	}
}

// R2: of several errors it is the first one's, element by element.
func TestDecodeOrder(t *testing.T) {
	cases := []struct {
		s    string
		most int
		e    api.Errno
	}{
		{"\x03\x08ab", 2, api.ErrTooLarge},        // too large, and bytes are missing
		{"\x03\x01\x01", 2, api.ErrTooLarge},      // too large, and nothing is there
		{"\x03\x08ab", 3, api.ErrShort},           // bytes are missing, and fewer
		{"\x01\x08ab", 9, api.ErrShort},           // bytes are missing, of more than were said
		{"\x01\xF0\xFFab", 9, api.ErrShort},       // likewise
		{"\x04\x01", 9, api.ErrShort},             // a copy that may not be here, cut short
		{"\x04\x02\x00", 9, api.ErrShort},         // likewise
		{"\x04\x03\x00\x00\x00", 9, api.ErrShort}, // likewise
		{"\x04\x01\x01\x08ab", 9, api.ErrForm},    // a wrong copy, and then bytes are missing
		{"\x00\x00a\x08ab", 9, api.ErrForm},       // more than were said, and then bytes are missing
		{"\x03\x08abc\x08ab", 9, api.ErrShort},    // nothing more may come: what comes is cut short
		{"\x09\x08abc\x08ab", 9, api.ErrShort},    // likewise, with room
		{length(1<<32-1) + "\xFC\xFE\xFF\xFF\xFFab", math.MaxInt, api.ErrShort},
	}
	for _, c := range cases {
		checkDecode(t, c.s, c.most, "", c.e)
	}
}

// blocks are some that decode, of all kinds of elements.
func blocks() []string {
	r := newRow()
	list := []string{
		"\x00", "\x80\x00", "\x03\x08abc", "\x09\x08abc\x09\x03", "\x0A\x00a\x15\x01", "\x83\x00\x00a\x00b\x00c",
		length(68) + longLit("abcd", 3) + copy4(4, 64), length(1060) + longLit(unlike(1000), 2) + copy2(1000, 60),
		length(304) + longLit(unlike(300), 4) + "\x21\x2C",
	}
	for _, n := range []int{1, 7, 60, 61, 300, 1200} {
		for _, kinds := range []int{1, 2, 5, 26} {
			block, _ := snappy.Encode(r.text(n, kinds))
			list = append(list, block)
		}
	}
	return list
}

// P3.8: cut short anywhere, it does not decode.
func TestCutShort(t *testing.T) {
	for _, block := range blocks() {
		if _, e := snappy.Decode(block, math.MaxInt); e != api.OK {
			t.Fatalf("Decode(%.40x) = %d", block, e)
		}
		for cut := range block {
			if s, e := snappy.Decode(block[:cut], math.MaxInt); e == api.OK || s != "" {
				t.Errorf("%.40x, cut at %d: %q, %d", block, cut, s, e)
			}
		}
	}
}

// With bytes more it does not decode: one byte is no whole element, and a whole one is more than was said.
func TestMoreBytes(t *testing.T) {
	for _, block := range blocks() {
		for b := range 256 {
			checkDecode(t, block+string([]byte{byte(b)}), math.MaxInt, "", api.ErrShort)
		}
		for _, more := range []string{"\x00z", "\x02\x01\x00", "\x01\x01", "\x03\x01\x00\x00\x00", "\xFC\x00\x00\x00\x00z"} {
			checkDecode(t, block+more, math.MaxInt, "", api.ErrForm)
		}
	}
}

// P3.2, P3.6: a copy that runs into itself goes on with the period of its Off.
func TestIntoItself(t *testing.T) {
	for off := 1; off <= 70; off++ {
		s := unlike(off)
		for n := 1; n <= 64; n++ {
			l := []snappy.Part{lit("ahead"), lit(s), again(off, n), lit("behind")}
			want := "ahead" + s + strings.Repeat(s, 64)[:n] + "behind"
			checkExpand(t, l, len(want), want, api.OK)
			block, e := snappy.Write(l)
			if e != api.OK {
				t.Fatalf("Write: %d", e)
			}
			checkDecode(t, block, len(want), want, api.OK)
		}
	}
}

// P3.2: parts that are written, by the first form in which they can be said.
func TestWriteForms(t *testing.T) {
	checkWrite(t, nil, "\x00", api.OK)
	checkWrite(t, []snappy.Part{}, "\x00", api.OK)
	heads := map[int]string{1: "\x00", 2: "\x04", 60: "\xEC", 61: "\xF0\x3C", 62: "\xF0\x3D", 255: "\xF0\xFE", 256: "\xF0\xFF", 257: "\xF4\x00\x01", 65535: "\xF4\xFE\xFF", 65536: "\xF4\xFF\xFF"}
	for n, head := range heads {
		s := unlike(n)
		checkWrite(t, []snappy.Part{lit(s)}, length(n)+head+s, api.OK)
	}
	cases := []struct {
		off, n int
		want   string
	}{
		{1, 1, "\x02\x01\x00"}, {1, 3, "\x0A\x01\x00"}, {1, 4, "\x01\x01"}, {1, 11, "\x1D\x01"}, {1, 12, "\x2E\x01\x00"}, {1, 64, "\xFE\x01\x00"},
		{255, 4, "\x01\xFF"}, {256, 4, "\x21\x00"}, {2047, 3, "\x0A\xFF\x07"}, {2047, 4, "\xE1\xFF"}, {2047, 11, "\xFD\xFF"}, {2047, 12, "\x2E\xFF\x07"}, {2047, 64, "\xFE\xFF\x07"},
		{2048, 3, "\x0A\x00\x08"}, {2048, 4, "\x0E\x00\x08"}, {2048, 11, "\x2A\x00\x08"}, {2048, 64, "\xFE\x00\x08"},
		{65472, 64, "\xFE\xC0\xFF"}, {65535, 1, "\x02\xFF\xFF"},
	}
	for _, c := range cases {
		s := unlike(c.off)
		head := heads[c.off]
		if head == "" {
			head = longHead(c.off)
		}
		l := []snappy.Part{lit(s), again(c.off, c.n)}
		checkWrite(t, l, length(c.off+c.n)+head+s+c.want, api.OK)
	}
}

// longHead stands ahead of a literal of 255 to 65536 bytes.
func longHead(n int) string {
	if n <= 256 {
		return longLit(unlike(n), 1)[:2]
	}
	return longLit(unlike(n), 2)[:3]
}

// manyParts are parts that may be, of all kinds.
func manyParts(r *row) []snappy.Part {
	l := []snappy.Part{lit(r.text(r.upTo(80), 3))}
	have := len(l[0].Text)
	for range r.upTo(30) {
		p := again(r.upTo(have), r.upTo(64))
		if r.next()%3 == 0 {
			p = lit(r.text(r.upTo(400), 20))
		}
		l = append(l, p)
		have += len(p.Text) + p.Len
	}
	return l
}

// P3.5: the block of any parts that may be decodes to what they stand for, and has these parts.
func TestAnyParts(t *testing.T) {
	r := newRow()
	for range 2000 {
		l := manyParts(r)
		want := said(l)
		checkExpand(t, l, len(want), want, api.OK)
		checkExpand(t, l, len(want)-1, "", api.ErrTooLarge)
		block, e := snappy.Write(l)
		if e != api.OK {
			t.Fatalf("Write(%s): %d", tell(l), e)
		}
		checkDecode(t, block, len(want), want, api.OK)
		checkDecode(t, block, len(want)-1, "", api.ErrTooLarge)
		checkParts(t, block, l, api.OK)
		checkSize(t, block, uint64(len(want)), api.OK)
	}
}

// wrongParts are those that may not be anywhere; ahead of them are 100 bytes.
func wrongParts() map[string]snappy.Part {
	return map[string]snappy.Part{
		"nothing":               {},
		"an empty literal":      lit(""),
		"a literal too long":    lit(unlike(api.MaxRaw + 1)),
		"a literal with Off":    {Text: "a", Off: 1},
		"a literal with -Off":   {Text: "a", Off: -1},
		"a literal with Len":    {Text: "a", Len: 1},
		"a literal with -Len":   {Text: "a", Len: math.MinInt},
		"a copy's Off, Len":     {Off: 1, Len: 1},
		"a copy with Text":      {Copy: true, Text: "a", Off: 1, Len: 1},
		"a copy of text alone":  {Copy: true, Text: "a"},
		"Len 0":                 again(1, 0),
		"Len -1":                again(1, -1),
		"Len least":             again(1, math.MinInt),
		"Len 65":                again(1, 65),
		"Len greatest":          again(1, math.MaxInt),
		"Off 0":                 again(0, 1),
		"Off -1":                again(-1, 1),
		"Off least":             again(math.MinInt, 1),
		"Off 101":               again(101, 1),
		"Off 2^32-1":            again(1<<32-1, 1),
		"Off 2^32":              again(1<<32, 1),
		"Off 2^32+1":            again(1<<32+1, 1),
		"Off greatest":          again(math.MaxInt, 1),
		"Off and Len 0":         again(0, 0),
		"Off and Len greatest":  again(math.MaxInt, math.MaxInt),
		"Off and Len below all": again(math.MinInt, math.MinInt),
	}
}

// The row of Expand and Write: ErrForm, ahead of ErrTooLarge of the same part.
func TestWrongParts(t *testing.T) {
	for name, p := range wrongParts() {
		t.Run(name, func(t *testing.T) {
			for _, l := range [][]snappy.Part{{lit(unlike(100)), p}, {lit(unlike(100)), p, lit("behind")}} {
				for _, most := range []int{100, 101, math.MaxInt} {
					checkExpand(t, l, most, "", api.ErrForm)
				}
				checkWrite(t, l, "", api.ErrForm)
			}
			for _, most := range []int{math.MinInt, -1, 0, 1, math.MaxInt} {
				checkExpand(t, []snappy.Part{p}, most, "", api.ErrForm)
			}
			checkExpand(t, []snappy.Part{lit(unlike(100)), p}, 99, "", api.ErrTooLarge)
			full := []snappy.Part{lit(unlike(100)), lit(unlike(api.MaxRaw - 100)), p}
			if p.Off != 101 { // which is there by now
				checkWrite(t, full, "", api.ErrForm)
			}
		})
	}
}

// The row of Expand and Write: copies that reach ahead of the begin.
func TestCopyNotThere(t *testing.T) {
	for have := range 70 {
		var l []snappy.Part
		if have > 0 {
			l = append(l, lit(unlike(have)))
		}
		checkExpand(t, append(l, again(have+1, 1)), 1000, "", api.ErrForm)
		checkWrite(t, append(l, again(have+1, 64)), "", api.ErrForm)
		if have > 0 {
			checkExpand(t, append(l, again(have, 1)), 1000, unlike(have)+unlike(have)[:1], api.OK)
			checkExpand(t, append(l, again(1, 1), again(have+1, 1)), 1000, unlike(have)+unlike(have)[have-1:]+unlike(have)[:1], api.OK)
		}
	}
}

// The row of Expand: more bytes than there may be, part by part.
func TestExpandMost(t *testing.T) {
	l := []snappy.Part{lit("abc"), again(3, 6), lit("d")}
	for _, most := range []int{10, 11, math.MaxInt} {
		checkExpand(t, l, most, "abcabcabcd", api.OK)
	}
	for _, most := range []int{9, 8, 4, 3, 2, 1, 0, -1, math.MinInt} {
		checkExpand(t, l, most, "", api.ErrTooLarge)
	}
	for _, most := range []int{math.MinInt, -1, 0, 1, math.MaxInt} { // there is no part that would be too much
		checkExpand(t, nil, most, "", api.OK)
		checkExpand(t, []snappy.Part{}, most, "", api.OK)
	}
	checkExpand(t, []snappy.Part{lit("abc"), lit("")}, 2, "", api.ErrTooLarge)
	checkExpand(t, []snappy.Part{lit("abc"), lit("")}, 3, "", api.ErrForm)
}

// Expand may have more than MaxRaw bytes, and copies from as far.
func TestExpandFar(t *testing.T) {
	s := unlike(api.MaxRaw)
	for _, off := range []int{65535, 65536, 65537, 131072} {
		l := []snappy.Part{lit(s), lit(s), again(off, 64)}
		checkExpand(t, l, 131136, s+s+(s + s + s)[131072-off:][:64], api.OK)
		checkExpand(t, l, 131135, "", api.ErrTooLarge)
	}
	checkExpand(t, []snappy.Part{lit(s), lit(s), again(131073, 64)}, math.MaxInt, "", api.ErrForm)
}

// The row of Write: MaxRaw bytes may be, one more may not.
func TestWriteMost(t *testing.T) {
	s := unlike(api.MaxRaw)
	checkWrite(t, []snappy.Part{lit(s[:65535]), lit("z")}, length(65536)+longLit(s[:65535], 2)+"\x00z", api.OK)
	checkWrite(t, []snappy.Part{lit(s[:65535]), lit("zz")}, "", api.ErrTooLarge)
	checkWrite(t, []snappy.Part{lit(s), lit("z")}, "", api.ErrTooLarge)
	checkWrite(t, []snappy.Part{lit(s), again(1, 1)}, "", api.ErrTooLarge)
	checkWrite(t, []snappy.Part{lit(s), again(65536, 1)}, "", api.ErrTooLarge)
	checkWrite(t, []snappy.Part{lit(s), again(65537, 1)}, "", api.ErrForm)
	checkWrite(t, []snappy.Part{lit(s[:65472]), again(65472, 64)}, length(65536)+longLit(s[:65472], 2)+"\xFE\xC0\xFF", api.OK)
	checkWrite(t, []snappy.Part{lit(s[:65473]), again(65473, 64)}, "", api.ErrTooLarge)
}

// R1: what is handed in stays; what is told hangs on nothing else, and may be changed.
func TestApart(t *testing.T) {
	r := newRow()
	l := manyParts(r)
	first := slices.Clone(l)
	block, _ := snappy.Write(l)
	snappy.Expand(l, 10)
	snappy.Expand(append(slices.Clone(l), lit("")), math.MaxInt)
	if !slices.Equal(l, first) {
		t.Error("the parts are other ones")
	}
	told, _ := snappy.Parts(block)
	for i := range told {
		told[i] = lit("other")
	}
	checkParts(t, block, first, api.OK)
	packed, _ := snappy.Pack(said(l))
	other := slices.Clone(packed)
	clear(packed)
	checkPack(t, said(l), other)
}

// R1: no bytes make a call panic, or go on for good; and Decode takes just those whose parts come to what they say.
func TestAnyBytes(t *testing.T) {
	r := newRow()
	for range 60000 {
		b := make([]byte, r.next()%14)
		for i := range b {
			b[i] = byte(r.next() >> (r.next() % 8))
		}
		if len(b) > 0 {
			b[0] &= 0x1F
		}
		s := string(b)
		size, e := snappy.Size(s)
		l, partsE := snappy.Parts(s)
		text, decodeE := snappy.Decode(s, 1000)
		want, expandE := snappy.Expand(l, 1000)
		right := e == api.OK && partsE == api.OK && expandE == api.OK && uint64(len(want)) == size
		if right != (decodeE == api.OK) || right && text != want {
			t.Fatalf("%x: Size %d, %d; Parts %s, %d; Decode %q, %d; Expand %q, %d", s, size, e, tell(l), partsE, text, decodeE, want, expandE)
		}
		for at := -2; at < len(s)+3; at++ {
			snappy.Match(s, at)
		}
	}
}
