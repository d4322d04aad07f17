package bits

import "baton/api"

// Reader goes over bytes.
type Reader struct {
	s  string
	at int
	e  api.Errno
}

// New is a reader of bytes.
func New(s string) *Reader { return &Reader{s: s} }

// Varint is the next varint, if it is at most most.
func (r *Reader) Varint(most uint64) uint64 {
	if r.Err() != api.OK {
		return 0
	}
	n, next, e := uvarintTo(r.s, r.at, most)
	r.take(next, e)
	return n
}

// uvarintTo is Uvarint of numbers up to most.
func uvarintTo(s string, at int, most uint64) (n uint64, next int, e api.Errno) {
	n, next, e = Uvarint(s, at)
	if e == api.OK && n > most {
		return 0, 0, api.ErrTooLarge
	}
	return n, next, e
}

// take goes on to next; with an error it stays, and the error stays, too.
func (r *Reader) take(next int, e api.Errno) {
	if e != api.OK {
		r.e = e
		return
	}
	r.at = next
}

// Zag is the next signed number, if it is from least to most.
func (r *Reader) Zag(least, most int64) int64 {
	if r.Err() != api.OK {
		return 0
	}
	n, next, e := zagWithin(r.s, r.at, least, most)
	r.take(next, e)
	return n
}

// zagWithin is the signed number at a place, if it is from least to most, and the place behind it.
func zagWithin(s string, at int, least, most int64) (n int64, next int, e api.Errno) {
	u, next, e := Uvarint(s, at)
	if e != api.OK {
		return 0, 0, e
	}
	n = Zag(u)
	if n < least || n > most {
		return 0, 0, api.ErrTooLarge
	}
	return n, next, api.OK
}

// Fixed is the next number of 4 or 8 bytes.
func (r *Reader) Fixed(size int) uint64 {
	if r.Err() != api.OK {
		return 0
	}
	n, next, e := Fixed(r.s, r.at, size)
	r.take(next, e)
	return n
}

// Byte is the next byte.
func (r *Reader) Byte() uint8 {
	s := r.Raw(1)
	if s == "" {
		return 0
	}
	return s[0]
}

// Raw is the next n bytes.
func (r *Reader) Raw(n int) string {
	if r.Err() != api.OK {
		return ""
	}
	s, next, e := raw(r.s, r.at, n)
	r.take(next, e)
	return s
}

// raw is the n bytes at a place, and the place behind them.
func raw(s string, at, n int) (piece string, next int, e api.Errno) {
	if n < 0 {
		return "", 0, api.ErrArg
	}
	if n > len(s)-at {
		return "", 0, api.ErrShort
	}
	return s[at : at+n], at + n, api.OK
}

// Text is the next text, if it has at most most bytes.
func (r *Reader) Text(most int) string {
	if r.Err() != api.OK {
		return ""
	}
	s, next, e := textTo(r.s, r.at, most)
	r.take(next, e)
	return s
}

// textTo is the text at a place, of up to most bytes, and the place behind it.
func textTo(s string, at, most int) (text string, next int, e api.Errno) {
	n, begin, e := uvarintTo(s, at, uint64(max(most, 0)))
	if e != api.OK {
		return "", 0, e
	}
	return raw(s, begin, int(n)) // n is at most most: it is an int
}

// Left tells how many bytes are left.
func (r *Reader) Left() int {
	if r == nil {
		return 0
	}
	return len(r.s) - r.at
}

// At tells how many bytes were taken.
func (r *Reader) At() int {
	if r == nil {
		return 0
	}
	return r.at
}

// Err tells the error.
func (r *Reader) Err() api.Errno {
	if r == nil {
		return api.ErrNil
	}
	return r.e
}

// End tells whether all was taken. It takes nothing, so the reader has no error by it.
func (r *Reader) End() api.Errno {
	if e := r.Err(); e != api.OK {
		return e
	}
	if r.Left() > 0 {
		return api.ErrForm
	}
	return api.OK
}
