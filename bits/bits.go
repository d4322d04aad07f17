// Package bits is layer 1: see shared/doc/01-bits.md.
package bits

import "baton/api"

const (
	groupBits = 7    // what a byte of a varint has of the number
	more      = 0x80 // the bit of a byte behind which another one stands
	lastShift = 63   // where the tenth byte's bits stand: there is room for one
)

// Uvarint is the varint that stands at a place of a text, and the place behind it.
func Uvarint(s string, at int) (n uint64, next int, e api.Errno) {
	if !isPlace(s, at) {
		return 0, 0, api.ErrArg
	}
	next = at
groups:
	for shift := 0; ; shift += groupBits {
		if next == len(s) {
			return 0, 0, api.ErrShort
		}
		b := s[next]
		next++
		switch {
		case shift == lastShift && b > 1: // also if it has more behind it: the tenth byte is always the last one
			return 0, 0, api.ErrForm
		case b < more:
			n |= uint64(b) << shift
			break groups
		default:
			n |= uint64(b-more) << shift
		}
	}
	return n, next, api.OK
}

// isPlace tells whether at is a place of s: the end is one, too.
func isPlace(s string, at int) bool { return 0 <= at && at <= len(s) }

// PutUvarint is b, and the varint of n behind it.
func PutUvarint(b []byte, n uint64) []byte {
	for ; n >= more; n >>= groupBits {
		b = append(b, byte(n)|more)
	}
	return append(b, byte(n))
}

// Len tells how many bytes the varint of n has.
func Len(n uint64) int {
	count := 1
	for ; n >= more; n >>= groupBits {
		count++
	}
	return count
}

// Zig is the number whose varint stands for the signed number n.
func Zig(n int64) uint64 { return uint64(n)<<1 ^ uint64(n>>63) }

// Zag is the signed number that the varint of n stands for.
func Zag(n uint64) int64 { return int64(n>>1) ^ -int64(n&1) }

// Fixed is the number of 4 or 8 bytes that stands at a place of a text, and the place behind it.
func Fixed(s string, at, size int) (n uint64, next int, e api.Errno) {
	if size != 4 && size != 8 || !isPlace(s, at) {
		return 0, 0, api.ErrArg
	}
	if len(s)-at < size {
		return 0, 0, api.ErrShort
	}
	for i := range size {
		n |= uint64(s[at+i]) << (8 * i)
	}
	return n, at + size, api.OK
}

// PutFixed is b, and n in 4 or 8 bytes behind it; of another size it is b.
func PutFixed(b []byte, n uint64, size int) []byte {
	switch size {
	case 4:
		return putFixed(b, uint32(n))
	case 8:
		return putFixed(b, n)
	}
	return b
}

// putFixed counts the bytes off at the greatest number of the type, so that the type alone says how many they are.
func putFixed[N uint32 | uint64](b []byte, n N) []byte {
	for rest := ^N(0); rest > 0; rest >>= 8 {
		b = append(b, byte(n))
		n >>= 8
	}
	return b
}

// PutText is b, and behind it the length of s, and s.
func PutText(b []byte, s string) []byte {
	return append(PutUvarint(b, uint64(len(s))), s...)
}
