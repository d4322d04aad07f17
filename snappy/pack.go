package snappy

import (
	"iter"
	"strings"

	"baton/api"
)

const (
	leastMatch = 4     // a match of fewer bytes is no copy
	mostOff    = 65535 // how far away a match is at most
)

// Match is a place's match: how far away, and how many bytes.
func Match(s string, at int) (off, n int) {
	if at < 0 || at >= len(s) {
		return 0, 0
	}
	return longest(s, at, allAhead(at))
}

// allAhead are all places ahead of one, the nearest first.
func allAhead(at int) iter.Seq[int] {
	return func(yield func(int) bool) {
		for place := at - 1; place >= 0 && yield(place); place-- {
		}
	}
}

// longest is the match of a place, among some that stand ahead of it, the nearest first.
func longest(s string, at int, among iter.Seq[int]) (off, n int) {
	most := min(mostLen, len(s)-at)
	for place := range among {
		if n == most || at-place > mostOff {
			break
		}
		if s[place+n] != s[at+n] { // it has no more bytes alike than the one that was found: most places end here
			continue
		}
		if more := alike(s, place, at, most); more > n {
			off, n = at-place, more
		}
	}
	return off, n
}

// alike tells how many bytes are alike from two places on, most at most.
func alike(s string, place, at, most int) int {
	n := 0
	for n < most && s[place+n] == s[at+n] {
		n++
	}
	return n
}

// places are a text's places by their next 4 bytes, in their row.
type places map[string][]int

// next is the next 4 bytes of a place. Near the end there are fewer: then no other place has the same.
func next(s string, at int) string { return s[at:min(at+leastMatch, len(s))] }

// add puts a place to the others, which stand ahead of it.
func (l places) add(s string, at int) {
	key := next(s, at)
	l[key] = append(l[key], at)
}

// match is a place's match among those that were added, if it has 4 bytes or more: only what begins alike can have these.
func (l places) match(s string, at int) (off, n int) {
	return longest(s, at, nearestFirst(l[next(s, at)]))
}

// nearestFirst are places that stand in their row, from the last one on.
func nearestFirst(row []int) iter.Seq[int] {
	return func(yield func(int) bool) {
		for i := len(row) - 1; i >= 0 && yield(row[i]); i-- {
		}
	}
}

// Pack is a text's parts.
func Pack(s string) ([]Part, api.Errno) {
	if len(s) > api.MaxRaw {
		return nil, api.ErrTooLarge
	}
	var l []Part
	passed := 0 // where that begins which was passed over, and not put yet
	putPassed := func(end int) {
		if passed < end {
			l = append(l, Part{Text: strings.Clone(s[passed:end])})
		}
	}
	seen := places{}
	for at := 0; at < len(s); {
		step := 1
		if off, n := seen.match(s, at); n >= leastMatch {
			putPassed(at)
			l = append(l, Part{Copy: true, Off: off, Len: n})
			passed, step = at+n, n
		}
		for ; step > 0; step-- {
			seen.add(s, at)
			at++
		}
	}
	putPassed(len(s))
	return l, api.OK
}

// Encode is the block of a text's parts.
func Encode(s string) (string, api.Errno) {
	l, e := Pack(s)
	if e != api.OK {
		return "", e
	}
	return Write(l)
}
