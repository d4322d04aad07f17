package ledger

import (
	"strings"

	"baton/api"
	"baton/bits"
)

// putList is b, and behind it how many things there are, and each of them, as one puts it.
func putList[T any](b []byte, l []T, one func(b []byte, x T) []byte) []byte {
	b = bits.PutUvarint(b, uint64(len(l)))
	for _, x := range l {
		b = one(b, x)
	}
	return b
}

// readList reads how many things there are, at most so many, and each of them, as one reads it from the same reader, up to
// the first one that is wrong. No room is made ahead for what is only said to follow.
func readList[T any](r *bits.Reader, most uint64, one func() (T, api.Errno)) ([]T, api.Errno) {
	var l []T
	for range r.Varint(most) {
		x, e := one()
		if e != api.OK {
			return nil, e
		}
		l = append(l, x)
	}
	return l, r.Err()
}

// readText is the next text: a clone, so that a short one does not hold all the bytes that it was read from.
func readText(r *bits.Reader, most int) string { return strings.Clone(r.Text(most)) }

// readRev is the next revision.
func readRev(r *bits.Reader) int64 { return int64(r.Varint(api.MaxRev)) }
