package snappy_test

import (
	"encoding/binary"
	"slices"
	"strconv"
	"strings"
	"testing"

	"baton/api"
	"baton/snappy"
)

// row is a fixed row of numbers without a plain rule.
type row uint64

func newRow() *row {
	r := row(88172645463325252)
	return &r
}

func (r *row) next() int {
	*r ^= *r << 13
	*r ^= *r >> 7
	*r ^= *r << 17
	return int(*r >> 16 & 0xFFFFFFFF)
}

// upTo is a number from 1 to most.
func (r *row) upTo(most int) int { return 1 + r.next()%most }

// text is a text of some length of so many kinds of bytes.
func (r *row) text(length, kinds int) string {
	b := make([]byte, length)
	for i := range b {
		b[i] = byte('a' + r.next()%kinds)
	}
	return string(b)
}

// unlike is a text in which no 4 bytes that follow one another come twice (up to 786432 bytes), and none is below 80: each
// three bytes are a number, and they rise; a first one is told from the others.
func unlike(length int) string {
	b := make([]byte, 0, length+2)
	for i := 0; len(b) < length; i++ {
		b = append(b, 0xC0|byte(i>>12&63), 0x80|byte(i>>6&63), 0x80|byte(i&63))
	}
	return string(b[:length])
}

func lit(s string) snappy.Part { return snappy.Part{Text: s} }

func again(off, length int) snappy.Part { return snappy.Part{Copy: true, Off: off, Len: length} }

// length is the varint ahead of a block's elements.
func length(n int) string { return string(binary.AppendUvarint(nil, uint64(n))) }

// said is what parts stand for, written without the package; they may be.
func said(l []snappy.Part) string {
	var b []byte
	for _, p := range l {
		b = append(b, p.Text...)
		for range p.Len {
			b = append(b, b[len(b)-p.Off])
		}
	}
	return string(b)
}

// low is a number in so many bytes, the lowest one first.
func low(n uint64, size int) string {
	return string(binary.LittleEndian.AppendUint64(nil, n)[:size])
}

// longLit is a literal's element whose length stands in 1 to 4 bytes, must it be or not.
func longLit(s string, size int) string {
	return string([]byte{byte(59+size) << 2}) + low(uint64(len(s)-1), size) + s
}

// copy2 and copy4 are a copy's elements of 2 and of 4 bytes of offset.
func copy2(off, length int) string {
	return string([]byte{byte(length-1)<<2 | 2}) + low(uint64(off), 2)
}

func copy4(off, length int) string {
	return string([]byte{byte(length-1)<<2 | 3}) + low(uint64(off), 4)
}

func checkSize(t *testing.T, s string, n uint64, e api.Errno) {
	t.Helper()
	if gotN, gotE := snappy.Size(s); gotN != n || gotE != e {
		t.Errorf("Size(%.40x) = %d, %d; want %d, %d", s, gotN, gotE, n, e)
	}
}

func checkParts(t *testing.T, s string, l []snappy.Part, e api.Errno) {
	t.Helper()
	if gotL, gotE := snappy.Parts(s); !slices.Equal(gotL, l) || gotE != e {
		t.Errorf("Parts(%.40x) = %s, %d; want %s, %d", s, tell(gotL), gotE, tell(l), e)
	}
}

func checkDecode(t *testing.T, s string, most int, text string, e api.Errno) {
	t.Helper()
	if got, gotE := snappy.Decode(s, most); got != text || gotE != e {
		t.Errorf("Decode(%.40x, %d) = %.40q (%d bytes), %d; want %.40q (%d bytes), %d", s, most, got, len(got), gotE, text, len(text), e)
	}
}

func checkExpand(t *testing.T, l []snappy.Part, most int, text string, e api.Errno) {
	t.Helper()
	if got, gotE := snappy.Expand(l, most); got != text || gotE != e {
		t.Errorf("Expand(%s, %d) = %.40q (%d bytes), %d; want %.40q (%d bytes), %d", tell(l), most, got, len(got), gotE, text, len(text), e)
	}
}

func checkWrite(t *testing.T, l []snappy.Part, block string, e api.Errno) {
	t.Helper()
	if got, gotE := snappy.Write(l); got != block || gotE != e {
		t.Errorf("Write(%s) = %.40x (%d bytes), %d; want %.40x (%d bytes), %d", tell(l), got, len(got), gotE, block, len(block), e)
	}
}

func checkMatch(t *testing.T, s string, at, off, n int) {
	t.Helper()
	if gotOff, gotN := snappy.Match(s, at); gotOff != off || gotN != n {
		t.Errorf("Match(%.40q (%d bytes), %d) = %d, %d; want %d, %d", s, len(s), at, gotOff, gotN, off, n)
	}
}

func checkPack(t *testing.T, s string, l []snappy.Part) {
	t.Helper()
	if got, e := snappy.Pack(s); !slices.Equal(got, l) || e != api.OK {
		t.Errorf("Pack(%.40q (%d bytes)) = %s, %d; want %s", s, len(s), tell(got), e, tell(l))
	}
}

func checkEncode(t *testing.T, s, block string, e api.Errno) {
	t.Helper()
	if got, gotE := snappy.Encode(s); got != block || gotE != e {
		t.Errorf("Encode(%.40q (%d bytes)) = %.40x (%d bytes), %d; want %.40x (%d bytes), %d", s, len(s), got, len(got), gotE, block, len(block), e)
	}
}

// tell tells the first parts, short.
func tell(l []snappy.Part) string {
	var b strings.Builder
	for i, p := range l {
		if i == 6 {
			b.WriteString(" ..")
			break
		}
		if p.Copy {
			b.WriteString(" copy")
		}
		b.WriteString(" " + p.Text[:min(len(p.Text), 20)] + " " + strconv.Itoa(p.Off) + "/" + strconv.Itoa(p.Len) + ";")
	}
	return "[" + b.String() + "] (" + strconv.Itoa(len(l)) + ")"
}
