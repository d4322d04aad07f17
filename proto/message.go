package proto

import (
	"math"
	"strings"

	"baton/api"
	"baton/bits"
)

const (
	wireBits = 3       // what a field's first varint has of the wire type
	keyEnd   = 1 << 32 // a field's first varint is below it
)

// Size tells by how many bytes a field is written.
func Size(f Field) int {
	if !May(f) {
		return 0
	}
	return bits.Len(key(f)) + valueSize(f.Val)
}

// key is the first varint of a field that may be.
func key(f Field) uint64 { return uint64(f.Num)<<wireBits | uint64(f.Val.Wire()) }

// valueSize tells by how many bytes a value is written.
func valueSize(v Value) int {
	switch x := v.(type) {
	case Varint:
		return bits.Len(uint64(x))
	case Eight:
		return 8
	case Text:
		return bits.Len(uint64(len(x))) + len(x)
	case Four:
		return 4
	}
	return 0
}

// Write is the message that is these fields.
func Write(l []Field) (string, api.Errno) {
	var b []byte
	for _, f := range l {
		if !May(f) {
			return "", api.ErrForm
		}
		b = putValue(bits.PutUvarint(b, key(f)), f.Val)
	}
	return string(b), api.OK
}

// putValue is b, and a value behind it.
func putValue(b []byte, v Value) []byte {
	switch x := v.(type) {
	case Varint:
		return bits.PutUvarint(b, uint64(x))
	case Eight:
		return bits.PutFixed(b, uint64(x), 8)
	case Text:
		return bits.PutText(b, string(x))
	case Four:
		return bits.PutFixed(b, uint64(x), 4)
	}
	return b
}

// Read is the fields that a message is, in their row.
func Read(s string) ([]Field, api.Errno) {
	var l []Field
	r := bits.New(s)
	for r.Left() > 0 {
		f, e := readField(r)
		if e != api.OK {
			return nil, e
		}
		l = append(l, f)
	}
	return l, api.OK
}

// readField is the next field.
func readField(r *bits.Reader) (Field, api.Errno) {
	first := r.Varint(math.MaxUint64)
	if e := r.Err(); e != api.OK {
		return Field{}, e
	}
	num, wire := first>>wireBits, first%(1<<wireBits)
	if first >= keyEnd || num == 0 {
		return Field{}, api.ErrForm
	}
	v, e := readValue(r, wire)
	return Field{Num: int(num), Val: v}, e
}

// readValue is the next value, of a wire type.
func readValue(r *bits.Reader, wire uint64) (v Value, e api.Errno) {
	switch wire {
	case wireVarint:
		v = Varint(r.Varint(math.MaxUint64))
	case wireEight:
		v = Eight(r.Fixed(8))
	case wireText:
		v = Text(readText(r))
	case wireFour:
		v = Four(r.Fixed(4))
	default:
		return nil, api.ErrForm
	}
	return v, r.Err()
}

// readText is the next text. Its length is taken by itself: the reader's Text would tell of one that is no int as too large,
// but here it is more than what is left, as any other is.
func readText(r *bits.Reader) string {
	n := r.Varint(math.MaxUint64)
	return strings.Clone(r.Raw(int(min(n, math.MaxInt)))) // a clone, so that a short text does not hold the whole message
}
