package vault_test

import (
	"encoding/binary"
	"fmt"
	"hash/crc32"
	"slices"
	"strings"
	"testing"

	"baton/api"
	"baton/disk"
	"baton/vault"
)

// row is a fixed row of numbers without a plain rule.
type row uint64

func newRow() *row {
	r := row(88172645463325252)
	return &r
}

func (r *row) next() uint64 {
	*r ^= *r << 13
	*r ^= *r >> 7
	*r ^= *r << 17
	return uint64(*r)
}

// below is a number from 0 on, below end.
func (r *row) below(end int) int { return int(r.next() >> 33 % uint64(end)) }

// odds tells yes once in so many times.
func (r *row) odds(many int) bool { return r.below(many) == 0 }

func (r *row) text(most int) string {
	b := make([]byte, r.below(most+1))
	for i := range b {
		b[i] = byte(r.next())
	}
	return string(b)
}

// keep are some numbers for a Back.
func (r *row) keep() []int {
	var l []int
	for range r.below(4) {
		l = append(l, r.below(60)-5)
	}
	return l
}

// The numbers that the document gives.
const (
	maxRev   = 1099511627776
	maxTapes = 32
	maxTape  = 1048576
	maxFrame = 262144
	over     = 9
)

// Frames and heads, written and read without the packages.

// framed is a frame's bytes.
func framed(kind uint8, payload string) string {
	c := crc32.Checksum([]byte(string([]byte{kind})+payload), crc32.MakeTable(crc32.Castagnoli))
	b := binary.LittleEndian.AppendUint32(nil, uint32(len(payload)))
	b = binary.LittleEndian.AppendUint32(b, c>>15+c<<17+0xA282EAD8)
	return string(append(b, kind)) + payload
}

// records are their frames, one behind the other.
func records(l ...string) string {
	s := ""
	for _, x := range l {
		s += framed(1, x)
	}
	return s
}

// snapshot is one's frame.
func snapshot(s string) string { return framed(2, s) }

// whole is a head's frame.
func whole(h api.Head) string {
	var b []byte
	for _, n := range append([]int{int(h.Gen), int(h.Base), h.Snap, len(h.Log)}, h.Log...) {
		b = binary.AppendUvarint(b, uint64(n))
	}
	return framed(3, string(b))
}

// scanned are the kinds and the payloads of the frames by which s begins, and what is behind them.
func scanned(s string) (kinds string, payloads []string, rest string) {
	for len(s) >= over {
		n := int64(binary.LittleEndian.Uint32([]byte(s)))
		if n > maxFrame || over+n > int64(len(s)) || s[8] < 1 || s[8] > 3 || s[:over+n] != framed(s[8], s[over:over+n]) {
			break
		}
		kinds, payloads, s = kinds+s[8:9], append(payloads, s[over:over+n]), s[over+n:]
	}
	return kinds, payloads, s
}

// plainOf is the head of a tape, of those whose numbers are below 2^63.
func plainOf(s string) (h api.Head, is bool) {
	kinds, payloads, _ := scanned(s)
	if kinds == "" || kinds[0] != 3 {
		return h, false
	}
	var l []int
	for b := []byte(payloads[0]); len(b) > 0; {
		n, size := binary.Uvarint(b)
		if size <= 0 {
			return h, false
		}
		l, b = append(l, int(n)), b[size:]
	}
	if len(l) < 5 || l[3] != len(l)-4 {
		return h, false
	}
	named := slices.Sorted(slices.Values(l[4:]))
	if l[2] != 0 || l[1] != 0 {
		named = slices.Sorted(slices.Values(append(named, l[2])))
	}
	if named[0] < 2 || named[len(named)-1] > 31 || len(slices.Compact(slices.Clone(named))) < len(named) {
		return h, false
	}
	return api.Head{Gen: int64(l[0]), Base: int64(l[1]), Snap: l[2], Log: l[4:]}, l[0] >= 1 && l[0] <= maxRev && l[1] >= 0 && l[1] <= maxRev
}

// plainLoad is the head that counts of two tapes' bytes, and the tape on which the next one is written.
func plainLoad(zero, one string) (h api.Head, spare int, is bool) {
	a, isA := plainOf(zero)
	b, isB := plainOf(one)
	switch {
	case isA && isB && b.Gen > a.Gen, isB && !isA:
		return b, 0, true
	case isA:
		return a, 1, true
	}
	return api.Head{}, 0, false
}

// Things that are done on a disk.

type thing struct {
	call string
	t    int
	s    string
	n    int
}

func sync(t int) thing            { return thing{call: "Sync", t: t} }
func wipe(t int) thing            { return thing{call: "Wipe", t: t} }
func trim(t, n int) thing         { return thing{call: "Trim", t: t, n: n} }
func write(t int, s string) thing { return thing{call: "Write", t: t, s: s} }

func (x thing) to(d *disk.Disk) api.Errno {
	switch x.call {
	case "Sync":
		return d.Sync(x.t)
	case "Wipe":
		return d.Wipe(x.t)
	case "Trim":
		return d.Trim(x.t, x.n)
	case "Write":
		return d.Write(x.t, x.s)
	}
	panic(x.call)
}

// A vault, written without the package: it makes a list of what is to be done, tries it on another disk, and does it then.

type plain struct {
	d     *disk.Disk
	most  int
	h     api.Head
	since int
	e     api.Errno // behind the first error nothing is done any more
}

func (p *plain) do(l ...thing) {
	for _, x := range l {
		if p.e == api.OK {
			p.e = x.to(p.d)
		}
	}
}

// wrong tells that something is, if nothing was ahead of it.
func (p *plain) wrong(is bool, e api.Errno) {
	if is && p.e == api.OK {
		p.e = e
	}
}

func (p *plain) tape(t int) string { x := p.d.Tapes()[t]; return x.Firm + x.Loose }

// loose are the syncs of those tapes that have loose bytes.
func (p *plain) loose(which func(t int) bool) []thing {
	var l []thing
	for t, x := range p.d.Tapes() {
		if x.Loose != "" && which(t) {
			l = append(l, sync(t))
		}
	}
	return l
}

func (p *plain) names(t int) bool { return t > 0 && t == p.h.Snap || slices.Contains(p.h.Log, t) }

func (p *plain) free() []int {
	var l []int
	for t := 2; t < maxTapes; t++ {
		if !p.names(t) {
			l = append(l, t)
		}
	}
	return l
}

// heads are what is done that a head is written.
func (p *plain) heads(h api.Head) []thing {
	_, spare, _ := plainLoad(p.tape(0), p.tape(1))
	return []thing{wipe(spare), write(spare, whole(h)), sync(spare)}
}

// begun takes the head that counts, or writes the first one.
func (p *plain) begun() {
	if p.e != api.OK {
		return
	}
	h, _, is := plainLoad(p.tape(0), p.tape(1))
	if !is {
		h = api.Head{Gen: 1, Log: []int{2}}
		p.do(wipe(2))
		p.do(p.heads(h)...)
	}
	p.h = h
}

func plainOpen(d *disk.Disk, most int) (*plain, vault.Found, api.Errno) {
	if d == nil {
		return nil, vault.Found{}, api.ErrNil
	}
	p := &plain{d: d, most: most}
	p.wrong(most < 1 || most > maxTape, api.ErrArg)
	p.wrong(!d.Up(), api.ErrDown)
	p.do(p.loose(func(t int) bool { return t < 2 })...)
	p.begun()
	for t, x := range d.Tapes() {
		if t >= 2 && !p.names(t) && x != (api.Tape{}) {
			p.do(wipe(t))
		}
	}
	f := p.found()
	p.do(p.loose(p.names)...)
	if p.e != api.OK {
		return nil, vault.Found{}, p.e
	}
	p.since = len(f.Records)
	return p, f, api.OK
}

// found looks at the head's tapes.
func (p *plain) found() (f vault.Found) {
	if p.h.Snap != 0 {
		kinds, payloads, rest := scanned(p.tape(p.h.Snap))
		p.wrong(kinds != "\x02" || rest != "", api.ErrForm)
		f = vault.Found{Has: true, Snap: strings.Join(payloads, "")}
	}
	for i, t := range p.h.Log {
		s := p.tape(t)
		kinds, payloads, rest := scanned(s)
		p.wrong(strings.Trim(kinds, "\x01") != "", api.ErrForm)
		p.wrong(rest != "" && i < len(p.h.Log)-1, api.ErrSum)
		if rest != "" {
			p.do(trim(t, len(s)-len(rest)))
		}
		f.Records = append(f.Records, payloads...)
	}
	return f
}

func (p *plain) count() int64 { return p.h.Base + int64(p.since) }

// fits tries it on a disk that does not fail.
func (p *plain) fits(l ...thing) bool {
	c, e := disk.Load(p.d.Capacity(), p.d.Tapes())
	for _, x := range l {
		if e == api.OK {
			e = x.to(c)
		}
	}
	return e == api.OK
}

// done does what is to be done ahead of a head, writes it, and does the rest.
func (p *plain) done(ahead []thing, h api.Head, since int, behind []thing) api.Errno {
	p.e = api.OK
	put := p.heads(h)
	if !p.fits(slices.Concat(ahead, put, behind)...) {
		return api.ErrFull
	}
	p.do(ahead...)
	p.do(put...)
	if p.e == api.OK {
		p.h, p.since = h, since
	}
	p.do(behind...)
	return p.e
}

func (p *plain) add(record string) api.Errno {
	last := p.h.Log[len(p.h.Log)-1]
	has, frame := p.tape(last), framed(1, record)
	beyond := has != "" && len(has+frame) > p.most
	free := p.free()
	p.e = api.OK
	p.wrong(len(record) > maxFrame || p.count() >= maxRev, api.ErrTooLarge)
	p.wrong(!p.d.Up(), api.ErrDown)
	p.wrong(beyond && p.h.Gen >= maxRev, api.ErrTooLarge)
	p.wrong(beyond && len(free) == 0 || !beyond && !p.fits(write(last, frame)), api.ErrFull)
	switch {
	case p.e != api.OK:
		return p.e
	case beyond:
		h := api.Head{Gen: p.h.Gen + 1, Base: p.h.Base, Snap: p.h.Snap, Log: append(slices.Clone(p.h.Log), free[0])}
		p.e = p.done([]thing{sync(last), wipe(free[0])}, h, p.since, []thing{write(free[0], frame)})
	default:
		p.do(write(last, frame))
	}
	if p.e == api.OK {
		p.since++
	}
	return p.e
}

func (p *plain) lay(s string) api.Errno {
	last, free := p.h.Log[len(p.h.Log)-1], p.free()
	p.e = api.OK
	p.wrong(len(s) > maxFrame || p.count() > maxRev, api.ErrTooLarge)
	p.wrong(!p.d.Up(), api.ErrDown)
	p.wrong(p.h.Gen >= maxRev, api.ErrTooLarge)
	p.wrong(len(free) < 2, api.ErrFull)
	if p.e != api.OK {
		return p.e
	}
	a, b := free[0], free[1]
	var wipes []thing
	for t := range maxTapes {
		if p.names(t) {
			wipes = append(wipes, wipe(t))
		}
	}
	h := api.Head{Gen: p.h.Gen + 1, Base: p.count(), Snap: a, Log: []int{b}}
	return p.done([]thing{sync(last), wipe(a), write(a, framed(2, s)), sync(a), wipe(b)}, h, 0, wipes)
}

func (p *plain) sync() api.Errno { return p.d.Sync(p.h.Log[len(p.h.Log)-1]) }

// Disks.

// made is a disk with these tapes.
func made(t *testing.T, capacity int, tapes ...api.Tape) *disk.Disk {
	t.Helper()
	d, e := disk.Load(capacity, tapes)
	if e != api.OK {
		t.Fatalf("Load(%d, %.200q): %d", capacity, tapes, e)
	}
	return d
}

const room = 40 << 20

// firm is a disk with room whose tapes have these bytes, from tape 0 on.
func firm(t *testing.T, tapes ...string) *disk.Disk {
	t.Helper()
	return sized(t, room, tapes...)
}

// sized is a disk of so many bytes, whose tapes have these, from tape 0 on.
func sized(t *testing.T, capacity int, tapes ...string) *disk.Disk {
	t.Helper()
	var l []api.Tape
	for _, s := range tapes {
		l = append(l, api.Tape{Firm: s})
	}
	return made(t, capacity, l...)
}

// changed is a disk to which all this was done.
func changed(t *testing.T, d *disk.Disk, l ...thing) *disk.Disk {
	t.Helper()
	for _, x := range l {
		if e := x.to(d); e != api.OK {
			t.Fatalf("%s of tape %d: %d", x.call, x.t, e)
		}
	}
	return d
}

func fail(t *testing.T, d *disk.Disk, n int) {
	t.Helper()
	if e := d.Fail(n); e != api.OK {
		t.Fatalf("Fail(%d): %d", n, e)
	}
}

func back(t *testing.T, d *disk.Disk, keep ...int) {
	t.Helper()
	if e := d.Back(keep); e != api.OK {
		t.Fatalf("Back(%v): %d", keep, e)
	}
}

// ended is a disk that failed, by a thing that left nothing.
func ended(t *testing.T, d *disk.Disk) *disk.Disk {
	t.Helper()
	fail(t, d, 0)
	if e := d.Sync(0); e != api.ErrDown {
		t.Fatalf("Sync of one that fails: %d", e)
	}
	return d
}

// told is what a disk has.
func told(d *disk.Disk) string {
	s := fmt.Sprintf("%d of %d bytes, up %v:", d.Used(), d.Capacity(), d.Up())
	for i, x := range d.Tapes() {
		if x != (api.Tape{}) {
			s += fmt.Sprintf(" %d: %.60q %.60q (%d, %d)", i, x.Firm, x.Loose, len(x.Firm), len(x.Loose))
		}
	}
	return s
}

// What the package answers, held against what it should.

// sameHead is whether two heads are the same, but for a Log of nothing.
func sameHead(a, b api.Head) bool {
	return a.Gen == b.Gen && a.Base == b.Base && a.Snap == b.Snap && slices.Equal(a.Log, b.Log)
}

func sameFound(a, b vault.Found) bool {
	return a.Has == b.Has && a.Snap == b.Snap && slices.Equal(a.Records, b.Records)
}

// show is what was found, cut short.
func show(f vault.Found) string {
	return fmt.Sprintf("%v, %.40q (%d bytes), %.60q (%d records)", f.Has, f.Snap, len(f.Snap), f.Records, len(f.Records))
}

func checkE(t *testing.T, call string, got, want api.Errno) {
	t.Helper()
	if got != want {
		t.Errorf("%s: %d; want %d", call, got, want)
	}
}

func checkDisk(t *testing.T, got, want *disk.Disk) {
	t.Helper()
	if !disk.Same(got, want) {
		t.Errorf("the disk is %s; want %s", told(got), told(want))
	}
}

// checkHead holds what a vault tells of itself against what it should.
func checkHead(t *testing.T, v *vault.Vault, h api.Head, since int) {
	t.Helper()
	if !sameHead(v.Head(), h) || v.Since() != since || v.Count() != h.Base+int64(since) {
		t.Errorf("the head is %v, Since %d, Count %d; want %v, %d, %d", v.Head(), v.Since(), v.Count(), h, since, h.Base+int64(since))
	}
}

// open is a vault that was opened, and found this.
func open(t *testing.T, d *disk.Disk, most int, want vault.Found) *vault.Vault {
	t.Helper()
	v, f, e := vault.Open(d, most)
	if v == nil || e != api.OK || !sameFound(f, want) {
		t.Fatalf("Open = %v, %s, %d; want %s", v != nil, show(f), e, show(want))
	}
	return v
}

// logged is what is found where there are records, and no snapshot.
func logged(l ...string) vault.Found { return vault.Found{Records: l} }

// laid is what is found where there is a snapshot, and these records behind it.
func laid(s string, l ...string) vault.Found { return vault.Found{Has: true, Snap: s, Records: l} }

// checkWrong: beside the error there is no vault, and nothing was found.
func checkWrong(t *testing.T, d *disk.Disk, most int, want api.Errno) {
	t.Helper()
	v, f, e := vault.Open(d, most)
	if v != nil || f.Has || f.Snap != "" || len(f.Records) > 0 || e != want {
		t.Errorf("Open = %v, %s, %d; want %d", v != nil, show(f), e, want)
	}
}

// twin is a vault, and a plain one on a disk that was the same.
type twin struct {
	v *vault.Vault
	d *disk.Disk
	p *plain
}

// twinOf opens both; there is none if that erred.
func twinOf(t *testing.T, d *disk.Disk, most int) (*twin, vault.Found, api.Errno) {
	t.Helper()
	c := d.Copy()
	p, wantF, want := plainOpen(c, most)
	v, f, e := vault.Open(d, most)
	if e != want || !sameFound(f, wantF) || (v != nil) != (e == api.OK) {
		t.Fatalf("Open(%s, %d) = %s, %d; want %s, %d", told(d), most, show(f), e, show(wantF), want)
	}
	if !disk.Same(d, c) {
		t.Fatalf("Open: the disk is %s; want %s", told(d), told(c))
	}
	if e != api.OK {
		return nil, f, e
	}
	w := &twin{v, d, p}
	w.check(t, "Open", e, want)
	return w, f, e
}

// check holds both against each other.
func (w *twin) check(t *testing.T, call string, e, want api.Errno) api.Errno {
	t.Helper()
	checkE(t, call, e, want)
	checkDisk(t, w.d, w.p.d)
	checkHead(t, w.v, w.p.h, w.p.since)
	if t.Failed() {
		t.FailNow()
	}
	return e
}

func (w *twin) add(t *testing.T, s string) api.Errno {
	t.Helper()
	return w.check(t, fmt.Sprintf("Add(%.40q (%d bytes))", s, len(s)), w.v.Add(s), w.p.add(s))
}

func (w *twin) lay(t *testing.T, s string) api.Errno {
	t.Helper()
	return w.check(t, fmt.Sprintf("Lay(%.40q (%d bytes))", s, len(s)), w.v.Lay(s), w.p.lay(s))
}

func (w *twin) sync(t *testing.T) api.Errno {
	t.Helper()
	return w.check(t, "Sync", w.v.Sync(), w.p.sync())
}

// both does it to both disks.
func (w *twin) both(f func(d *disk.Disk)) {
	f(w.d)
	f(w.p.d)
}
