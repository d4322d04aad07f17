package snappy

import (
	"iter"
	"math"

	"baton/api"
	"baton/bits"
)

// What the lowest two bits of an element's first byte say that it is.
const (
	literal = iota
	copyNear
	copyFar
	copyFarthest
)

const (
	kindBits  = 2
	kindMask  = 1<<kindBits - 1
	inHead    = 60      // a literal's number below it stands in the first byte itself
	nearLeast = 4       // how many bytes a near copy has at least,
	nearMost  = 11      // and at most
	nearBits  = 5       // where the highest bits of a near copy's Off stand
	nearEnd   = 1 << 11 // a near copy's Off is below it
	farEnd    = 1 << 16 // a far copy's Off is below it
)

// elements are the parts of a block, up to the first one of which bytes are missing: it is told as an error.
func elements(s string) iter.Seq2[Part, api.Errno] {
	return func(yield func(Part, api.Errno) bool) {
		r := bits.New(s)
		r.Varint(math.MaxUint64)
		for r.Left() > 0 {
			p := element(r)
			e := r.Err()
			if !yield(p, e) || e != api.OK {
				return
			}
		}
	}
}

// element is the next part. If bytes are missing the reader has the error, and the part means nothing.
func element(r *bits.Reader) Part {
	head := int(r.Byte())
	rest := head >> kindBits
	switch head & kindMask {
	case literal:
		return Part{Text: r.Raw(literalLen(r, rest))}
	case copyNear:
		return Part{Copy: true, Len: rest&7 + nearLeast, Off: head>>nearBits<<8 | number(r, 1)}
	case copyFar:
		return Part{Copy: true, Len: rest + 1, Off: number(r, 2)}
	default:
		return Part{Copy: true, Len: rest + 1, Off: number(r, 4)}
	}
}

// literalLen is how many bytes a literal has, by what its first byte has beside the kind.
func literalLen(r *bits.Reader, rest int) int {
	if rest < inHead {
		return rest + 1
	}
	return number(r, rest-inHead+1) + 1
}

// number is the next number of so many bytes, the lowest one first.
func number(r *bits.Reader, size int) int {
	n := 0
	for i := range size {
		n |= int(r.Byte()) << (8 * i)
	}
	return n
}

// put is b, and behind it a part that may be, by the first form in which it can be said.
func put(b []byte, p Part) []byte {
	switch {
	case !p.Copy:
		return append(putLiteralLen(b, len(p.Text)), p.Text...)
	case nearLeast <= p.Len && p.Len <= nearMost && p.Off < nearEnd:
		return append(b, byte(p.Off>>8<<nearBits|(p.Len-nearLeast)<<kindBits|copyNear), byte(p.Off))
	case p.Off < farEnd:
		return putNumber(append(b, byte((p.Len-1)<<kindBits|copyFar)), p.Off, 2)
	default: // a block that is written has too few bytes for such an Off; a part may have it all the same
		return putNumber(append(b, byte((p.Len-1)<<kindBits|copyFarthest)), p.Off, 4)
	}
}

// putLiteralLen is b, and behind it what stands ahead of a literal's bytes.
func putLiteralLen(b []byte, length int) []byte {
	n := length - 1
	if n < inHead {
		return append(b, byte(n<<kindBits|literal))
	}
	size := 1
	for n>>(8*size) > 0 {
		size++
	}
	return putNumber(append(b, byte((inHead+size-1)<<kindBits|literal)), n, size)
}

// putNumber is b, and n in so many bytes behind it, the lowest one first.
func putNumber(b []byte, n, size int) []byte {
	for range size {
		b = append(b, byte(n))
		n >>= 8
	}
	return b
}
