package head_test

import (
	"encoding/binary"
	"fmt"
	"hash/crc32"
	"math"
	"slices"
	"testing"

	"baton/api"
	"baton/disk"
	"baton/head"
)

// row is a fixed row of numbers without a plain rule.
type row uint64

func newRow() *row {
	r := row(88172645463325252)
	return &r
}

func (r *row) next() uint64 {
	*r ^= *r << 13
	*r ^= *r >> 7
	*r ^= *r << 17
	return uint64(*r)
}

// below is a number from 0 on, below end.
func (r *row) below(end int) int { return int(r.next() >> 33 % uint64(end)) }

// odds tells yes once in so many times.
func (r *row) odds(many int) bool { return r.below(many) == 0 }

func (r *row) text(most int) string {
	b := make([]byte, r.below(most+1))
	for i := range b {
		b[i] = byte(r.next())
	}
	return string(b)
}

// number is one from least to most, of any count of bits, the ends often.
func (r *row) number(least, most int64) int64 {
	switch r.below(6) {
	case 0:
		return least
	case 1:
		return most
	}
	return least + int64((r.next()>>(r.below(63)))%uint64(most-least+1))
}

// head is one that may be.
func (r *row) head() api.Head {
	tapes := allTapes()
	for i := range tapes {
		j := i + r.below(len(tapes)-i)
		tapes[i], tapes[j] = tapes[j], tapes[i]
	}
	h := api.Head{Gen: r.number(1, maxRev), Log: tapes[1 : 2+r.below(len(tapes)-1)]}
	if r.odds(2) {
		h.Snap, h.Base = tapes[0], r.number(0, maxRev)
	}
	return h
}

// any is a head that may be, or one in which something is another thing.
func (r *row) any() api.Head {
	h := r.head()
	switch r.below(8) {
	case 0:
		h.Gen = int64(r.next())
	case 1:
		h.Base = r.number(-2, maxRev+2)
	case 2:
		h.Snap = r.below(36) - 2
	case 3:
		h.Log[r.below(len(h.Log))] = r.below(36) - 2
	case 4:
		h.Log = nil
	case 5:
		h.Log = append(h.Log, h.Log[r.below(len(h.Log))])
	}
	return h
}

// The numbers that the document gives.
const (
	maxRev   = 1099511627776
	maxTapes = 32
	over     = 9
)

// allTapes are those that a head may name.
func allTapes() []int {
	var l []int
	for t := 2; t < maxTapes; t++ {
		l = append(l, t)
	}
	return l
}

// Heads, written and read without the package.

// plainMay goes by all tapes that a head names, sorted.
func plainMay(h api.Head) bool {
	tapes := slices.Clone(h.Log)
	if h.Snap != 0 {
		tapes = append(tapes, h.Snap)
	}
	slices.Sort(tapes)
	count := len(tapes)
	if len(h.Log) == 0 || tapes[0] < 2 || tapes[count-1] > 31 || len(slices.Compact(tapes)) < count {
		return false
	}
	return h.Gen >= 1 && h.Gen <= maxRev && h.Base >= 0 && h.Base <= maxRev && (h.Base == 0 || h.Snap != 0)
}

// numbers are what stands in a payload.
func numbers(h api.Head) []uint64 {
	l := []uint64{uint64(h.Gen), uint64(h.Base), uint64(h.Snap), uint64(len(h.Log))}
	for _, t := range h.Log {
		l = append(l, uint64(t))
	}
	return l
}

// varints are numbers as bytes.
func varints(l ...uint64) string {
	var b []byte
	for _, n := range l {
		b = binary.AppendUvarint(b, n)
	}
	return string(b)
}

// payload is a head's, also of one that may not be.
func payload(h api.Head) string { return varints(numbers(h)...) }

// wide is a number in so many bytes.
func wide(n uint64, count int) string {
	b := make([]byte, count)
	for i := range b {
		b[i] = byte(n)&0x7F | 0x80
		n >>= 7
	}
	b[count-1] &= 0x7F
	return string(b)
}

// plainVarint is the varint by which s begins, if it is not above most, and what is behind it.
func plainVarint(s string, most uint64) (n uint64, rest string, e api.Errno) {
	for i := range len(s) {
		if i == 9 && s[i] > 1 {
			return 0, "", api.ErrForm
		}
		n += uint64(s[i]%128) << (7 * i)
		if s[i] >= 128 {
			continue
		}
		if n > most {
			return 0, "", api.ErrTooLarge
		}
		return n, s[i+1:], api.OK
	}
	return 0, "", api.ErrShort
}

// plainDecode gathers all numbers, and looks then what they say.
func plainDecode(s string) (api.Head, api.Errno) {
	limits := []uint64{maxRev, maxRev, 31, 31}
	var l []uint64
	for i := 0; i < len(limits); i++ {
		n, rest, e := plainVarint(s, limits[i])
		if e != api.OK {
			return api.Head{}, e
		}
		if i == 3 {
			limits = append(limits, slices.Repeat([]uint64{31}, int(n))...)
		}
		l, s = append(l, n), rest
	}
	h := api.Head{Gen: int64(l[0]), Base: int64(l[1]), Snap: int(l[2])}
	for _, n := range l[4:] {
		h.Log = append(h.Log, int(n))
	}
	if s != "" || !plainMay(h) {
		return api.Head{}, api.ErrForm
	}
	return h, api.OK
}

// framed is a frame's bytes.
func framed(kind uint8, payload string) string {
	c := crc32.Checksum([]byte(string([]byte{kind})+payload), crc32.MakeTable(crc32.Castagnoli))
	b := binary.LittleEndian.AppendUint32(nil, uint32(len(payload)))
	b = binary.LittleEndian.AppendUint32(b, c>>15+c<<17+0xA282EAD8)
	return string(append(b, kind)) + payload
}

// whole is a head's frame.
func whole(h api.Head) string { return framed(3, payload(h)) }

// plainOf takes the first frame as it should be, made of the bytes themselves.
func plainOf(s string) (api.Head, bool) {
	if len(s) < over {
		return api.Head{}, false
	}
	n := int64(binary.LittleEndian.Uint32([]byte(s)))
	if n > 262144 || over+n > int64(len(s)) || s[:over+n] != framed(3, s[over:over+n]) {
		return api.Head{}, false
	}
	h, e := plainDecode(s[over : over+n])
	return h, e == api.OK
}

// plainLoad is the head that counts of two tapes' bytes.
func plainLoad(zero, one string) (h api.Head, tape int, is bool) {
	a, isA := plainOf(zero)
	b, isB := plainOf(one)
	switch {
	case isA && isB && b.Gen > a.Gen, isB && !isA:
		return b, 1, true
	case isA:
		return a, 0, true
	}
	return api.Head{}, 0, false
}

// bothOf are the bytes of tapes 0 and 1, of those that are there.
func bothOf(tapes []string) (zero, one string) {
	l := slices.Concat(tapes, []string{"", ""})
	return l[0], l[1]
}

// goesOn is the tape on which a head is written.
func goesOn(zero, one string) int {
	if _, tape, is := plainLoad(zero, one); is && tape == 0 {
		return 1
	}
	return 0
}

// What the package answers, held against what it should.

// show is a head, cut short where its log is long.
func show(h api.Head) string {
	return fmt.Sprintf("{%d %d %d %v (%d)}", h.Gen, h.Base, h.Snap, h.Log[:min(40, len(h.Log))], len(h.Log))
}

// equal is whether two heads are the same, but for a Log of nothing.
func equal(a, b api.Head) bool {
	return a.Gen == b.Gen && a.Base == b.Base && a.Snap == b.Snap && slices.Equal(a.Log, b.Log)
}

func checkMay(t *testing.T, h api.Head, want bool) {
	t.Helper()
	if got := head.May(h); got != want {
		t.Errorf("May(%s) = %v", show(h), got)
	}
}

// checkSame: it doesn't matter which one of the two stands first.
func checkSame(t *testing.T, a, b api.Head, want bool) {
	t.Helper()
	if head.Same(a, b) != want || head.Same(b, a) != want {
		t.Errorf("Same(%s, %s) = %v, %v", show(a), show(b), head.Same(a, b), head.Same(b, a))
	}
}

func checkEncode(t *testing.T, h api.Head, want string, wantE api.Errno) {
	t.Helper()
	if s, e := head.Encode(h); s != want || e != wantE {
		t.Errorf("Encode(%s) = %x, %d; want %x, %d", show(h), s, e, want, wantE)
	}
}

func checkDecode(t *testing.T, s string, want api.Head, wantE api.Errno) {
	t.Helper()
	h, e := head.Decode(s)
	if !equal(h, want) || e != wantE {
		t.Errorf("Decode(%x) = %s, %d; want %s, %d", s, show(h), e, show(want), wantE)
	}
}

// checkWrong: beside the error all is 0.
func checkWrong(t *testing.T, s string, e api.Errno) {
	t.Helper()
	checkDecode(t, s, api.Head{}, e)
}

func checkSize(t *testing.T, h api.Head, want int) {
	t.Helper()
	if n := head.Size(h); n != want {
		t.Errorf("Size(%s) = %d; want %d", show(h), n, want)
	}
}

func checkOf(t *testing.T, tape string, want api.Head, wantIs bool) {
	t.Helper()
	h, is := head.Of(tape)
	if !equal(h, want) || is != wantIs {
		t.Errorf("Of(%.60q (%d bytes)) = %s, %v; want %s, %v", tape, len(tape), show(h), is, show(want), wantIs)
	}
}

// checkNone: beside the no there is nothing.
func checkNone(t *testing.T, tape string) {
	t.Helper()
	checkOf(t, tape, api.Head{}, false)
}

func checkLoad(t *testing.T, d *disk.Disk, want api.Head, wantTape int, wantIs bool, wantE api.Errno) {
	t.Helper()
	h, tape, is, e := head.Load(d)
	if !equal(h, want) || tape != wantTape || is != wantIs || e != wantE {
		t.Errorf("Load = %s, %d, %v, %d; want %s, %d, %v, %d", show(h), tape, is, e, show(want), wantTape, wantIs, wantE)
	}
}

func checkPut(t *testing.T, d *disk.Disk, h api.Head, want api.Errno) {
	t.Helper()
	if e := head.Put(d, h); e != want {
		t.Errorf("Put(%s) = %d; want %d", show(h), e, want)
	}
}

func checkFree(t *testing.T, h api.Head, want []int) {
	t.Helper()
	if l := head.Free(h); !slices.Equal(l, want) {
		t.Errorf("Free(%s) = %v; want %v", show(h), l, want)
	}
}

// checkDisk holds a disk against another one.
func checkDisk(t *testing.T, got, want *disk.Disk) {
	t.Helper()
	if !disk.Same(got, want) {
		t.Errorf("the disk is %s, up %v; want %s, up %v", told(got), got.Up(), told(want), want.Up())
	}
}

// told is what a disk has.
func told(d *disk.Disk) string {
	s := fmt.Sprintf("%d bytes:", d.Used())
	for i, x := range d.Tapes() {
		if x != (api.Tape{}) {
			s += fmt.Sprintf(" %d: %.60q %.60q", i, x.Firm, x.Loose)
		}
	}
	return s
}

// Disks.

const room = 100000

// made is a disk with these tapes.
func made(t *testing.T, capacity int, tapes ...api.Tape) *disk.Disk {
	t.Helper()
	d, e := disk.Load(capacity, tapes)
	if e != api.OK {
		t.Fatalf("Load(%d, %.200q): %d", capacity, tapes, e)
	}
	return d
}

// firm is a disk whose tapes have these bytes, from tape 0 on.
func firm(t *testing.T, tapes ...string) *disk.Disk {
	t.Helper()
	var l []api.Tape
	for _, s := range tapes {
		l = append(l, api.Tape{Firm: s})
	}
	return made(t, room, l...)
}

// ended is a disk that failed, by a thing that left nothing.
func ended(t *testing.T, d *disk.Disk) *disk.Disk {
	t.Helper()
	if e := d.Fail(0); e != api.OK {
		t.Fatalf("Fail(0): %d", e)
	}
	if e := d.Sync(0); e != api.ErrDown {
		t.Fatalf("Sync of one that fails: %d", e)
	}
	return d
}

// of is a head of a generation, with one tape.
func of(gen int64) api.Head { return api.Head{Gen: gen, Log: []int{2}} }

// wrong are heads that may not be: each has one thing that is wrong.
func wrong() []api.Head {
	return []api.Head{
		{},
		{Gen: 0, Log: []int{2}},
		{Gen: -1, Log: []int{2}},
		{Gen: math.MinInt64, Log: []int{2}},
		{Gen: maxRev + 1, Log: []int{2}},
		{Gen: 2 * maxRev, Log: []int{2}},
		{Gen: math.MaxInt64, Log: []int{2}},
		{Gen: maxRev + 1, Base: maxRev, Snap: 3, Log: []int{2, 4}},
		{Gen: 1, Base: -1, Snap: 3, Log: []int{2}},
		{Gen: 1, Base: math.MinInt64, Snap: 3, Log: []int{2}},
		{Gen: 1, Base: maxRev + 1, Snap: 3, Log: []int{2}},
		{Gen: 1, Base: math.MaxInt64, Snap: 3, Log: []int{2}},
		{Gen: 1, Base: 1, Log: []int{2}},
		{Gen: 1, Base: maxRev, Log: []int{2}},
		{Gen: 1, Snap: math.MinInt, Log: []int{2}},
		{Gen: 1, Snap: -1, Log: []int{2}},
		{Gen: 1, Snap: 1, Log: []int{2}},
		{Gen: 1, Snap: maxTapes, Log: []int{2}},
		{Gen: 1, Snap: math.MaxInt, Log: []int{2}},
		{Gen: 1},
		{Gen: 1, Log: []int{}},
		{Gen: 1, Snap: 2},
		{Gen: 1, Log: []int{0}},
		{Gen: 1, Log: []int{1}},
		{Gen: 1, Log: []int{-1}},
		{Gen: 1, Log: []int{math.MinInt}},
		{Gen: 1, Log: []int{maxTapes}},
		{Gen: 1, Log: []int{math.MaxInt}},
		{Gen: 1, Log: []int{2, 3, 1}},
		{Gen: 1, Log: []int{0, 2, 3}},
		{Gen: 1, Log: []int{2, maxTapes, 3}},
		{Gen: 1, Log: []int{2, 2}},
		{Gen: 1, Log: []int{31, 4, 31}},
		{Gen: 1, Log: []int{5, 4, 3, 4}},
		{Gen: 1, Snap: 2, Log: []int{2}},
		{Gen: 1, Snap: 31, Log: []int{3, 4, 31}},
		{Gen: 1, Snap: 3, Log: []int{3, 4}},
		{Gen: 1, Log: append(allTapes(), 2)},
		{Gen: 1, Snap: 2, Log: allTapes()},
		{Gen: 1, Log: slices.Repeat([]int{2}, 1000)},
		{Gen: 1, Log: make([]int, 100000)},
	}
}

// right are heads that may be, at the ends.
func right() []api.Head {
	return []api.Head{
		{Gen: 1, Log: []int{2}},
		{Gen: 1, Log: []int{31}},
		{Gen: 2, Log: []int{31, 2}},
		{Gen: 127, Log: []int{2, 31}},
		{Gen: 128, Log: []int{4, 3, 2}},
		{Gen: maxRev - 1, Log: []int{7}},
		{Gen: maxRev, Log: []int{7}},
		{Gen: 1, Snap: 2, Log: []int{3}},
		{Gen: 1, Snap: 31, Log: []int{30}},
		{Gen: 1, Base: 1, Snap: 2, Log: []int{31}},
		{Gen: 1, Base: maxRev - 1, Snap: 3, Log: []int{2}},
		{Gen: maxRev, Base: maxRev, Snap: 3, Log: []int{2, 4}},
		{Gen: 300, Log: allTapes()},
		{Gen: 300, Base: 5, Snap: 31, Log: allTapes()[:29]},
		{Gen: 300, Base: 5, Snap: 2, Log: allTapes()[1:]},
	}
}
