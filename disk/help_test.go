package disk_test

import (
	"fmt"
	"math/big"
	"slices"
	"strings"
	"testing"

	"baton/api"
	"baton/disk"
)

// row is a fixed row of numbers without a plain rule.
type row uint64

func newRow() *row {
	r := row(88172645463325252)
	return &r
}

func (r *row) next() uint64 {
	*r ^= *r << 13
	*r ^= *r >> 7
	*r ^= *r << 17
	return uint64(*r)
}

// below is a number from 0 on, below end.
func (r *row) below(end int) int { return int(r.next() >> 33 % uint64(end)) }

// odds tells yes once in so many times.
func (r *row) odds(many int) bool { return r.below(many) == 0 }

func (r *row) text(most int) string {
	b := make([]byte, r.below(most+1))
	for i := range b {
		b[i] = byte(r.next())
	}
	return string(b)
}

// thing is what is asked of a disk: a call, and what is handed to it.
type thing struct {
	call string
	t, n int
	s    string
	keep []int
}

func write(t int, s string) thing { return thing{call: "Write", t: t, s: s} }
func sync(t int) thing            { return thing{call: "Sync", t: t} }
func trim(t, n int) thing         { return thing{call: "Trim", t: t, n: n} }
func wipe(t int) thing            { return thing{call: "Wipe", t: t} }
func read(t int) thing            { return thing{call: "Read", t: t} }
func fail(n int) thing            { return thing{call: "Fail", n: n} }
func back(keep ...int) thing      { return thing{call: "Back", keep: keep} }

// to asks a disk for it.
func (x thing) to(d *disk.Disk) (s string, e api.Errno) {
	switch x.call {
	case "Write":
		e = d.Write(x.t, x.s)
	case "Sync":
		e = d.Sync(x.t)
	case "Trim":
		e = d.Trim(x.t, x.n)
	case "Wipe":
		e = d.Wipe(x.t)
	case "Read":
		s, e = d.Read(x.t)
	case "Fail":
		e = d.Fail(x.n)
	case "Back":
		e = d.Back(x.keep)
	default:
		panic(x.call)
	}
	return s, e
}

func (x thing) String() string {
	return fmt.Sprintf("%s(t %d, n %d, %.20q (%d bytes), %v)", x.call, x.t, x.n, x.s, len(x.s), x.keep)
}

// counted are the calls by which something is done.
func (x thing) counted() bool {
	return x.call == "Write" || x.call == "Sync" || x.call == "Trim" || x.call == "Wipe"
}

// A disk, written without the package: each byte has a mark of its own.

type spot struct {
	b    byte
	firm bool
}

type plain struct {
	capacity int
	tapes    [api.MaxTapes][]spot
	down     bool
	fate     []bool // one for each thing that is done still, if it is to fail (nil: it is not)
}

func newPlain(capacity int) *plain { return &plain{capacity: capacity} }

func (p *plain) copied() *plain {
	c := *p
	for i := range c.tapes {
		c.tapes[i] = slices.Clone(c.tapes[i])
	}
	return &c
}

func (p *plain) used() int {
	n := 0
	for _, t := range p.tapes {
		n += len(t)
	}
	return n
}

func (p *plain) add(t int, s string, firm bool) {
	for i := range len(s) {
		p.tapes[t] = append(p.tapes[t], spot{s[i], firm})
	}
}

func (p *plain) harden(t int) {
	for i := range p.tapes[t] {
		p.tapes[t][i].firm = true
	}
}

// wrong is what is wrong with a thing itself, by the chapter's table, wherever the disk is up.
func (p *plain) wrong(x thing) api.Errno {
	here := 0 <= x.t && x.t < api.MaxTapes
	switch {
	case x.call == "Fail" && x.n < 0:
		return api.ErrArg
	case x.call == "Fail", x.call == "Back":
		return api.OK
	case !here, x.call == "Trim" && (x.n < 0 || x.n > len(p.tapes[x.t])):
		return api.ErrArg
	case x.call == "Write" && len(p.tapes[x.t])+len(x.s) > 1048576:
		return api.ErrTooLarge
	case x.call == "Write" && new(big.Int).Add(big.NewInt(int64(p.used())), big.NewInt(int64(len(x.s)))).Cmp(big.NewInt(int64(p.capacity))) > 0:
		return api.ErrFull
	}
	return api.OK
}

func (p *plain) do(x thing) (s string, e api.Errno) {
	if x.call == "Back" {
		p.back(x.keep)
		return "", api.OK
	}
	if p.down {
		return "", api.ErrDown
	}
	e = p.wrong(x)
	if x.counted() && p.fate != nil {
		if len(p.fate) == 0 {
			if x.call == "Write" && e == api.OK {
				p.add(x.t, x.s, false)
			}
			p.down, p.fate = true, nil
			return "", api.ErrDown
		}
		if e == api.OK {
			p.fate = p.fate[1:]
		}
	}
	if e != api.OK {
		return "", e
	}
	switch x.call {
	case "Write":
		p.add(x.t, x.s, false)
	case "Sync":
		p.harden(x.t)
	case "Trim":
		p.tapes[x.t] = p.tapes[x.t][:x.n]
		p.harden(x.t)
	case "Wipe":
		p.tapes[x.t] = nil
	case "Read":
		tape := p.tape(x.t)
		s = tape.Firm + tape.Loose
	case "Fail":
		p.fate = make([]bool, x.n)
	}
	return s, api.OK
}

func (p *plain) back(keep []int) {
	for t := range p.tapes {
		loose := len(p.tape(t).Loose)
		if loose == 0 {
			continue
		}
		p.tapes[t] = p.tapes[t][:len(p.tapes[t])-loose+stays(keep, loose)]
		p.harden(t)
		keep = keep[min(1, len(keep)):]
	}
	p.down, p.fate = false, nil
}

// stays is how many of so many loose bytes stay, by the first one of the numbers.
func stays(keep []int, loose int) int {
	if len(keep) == 0 {
		return 0
	}
	n := big.NewInt(int64(keep[0]))
	if n.Sign() < 0 {
		n.Add(n, new(big.Int).Lsh(big.NewInt(1), 64))
	}
	return int(n.Mod(n, big.NewInt(int64(loose)+1)).Int64())
}

func (p *plain) tape(t int) api.Tape {
	var firm, loose strings.Builder
	for _, x := range p.tapes[t] {
		if x.firm {
			firm.WriteByte(x.b)
		} else {
			loose.WriteByte(x.b)
		}
	}
	return api.Tape{Firm: firm.String(), Loose: loose.String()}
}

func (p *plain) all() []api.Tape {
	var l []api.Tape
	for t := range p.tapes {
		l = append(l, p.tape(t))
	}
	return l
}

// Disks, made and held against what they are to be.

// made is a new disk, to which all this is done.
func made(t *testing.T, capacity int, things ...thing) *disk.Disk {
	t.Helper()
	d, e := disk.New(capacity)
	if d == nil || e != api.OK {
		t.Fatalf("New(%d): %d", capacity, e)
	}
	do(t, d, things...)
	return d
}

// do does all this to a disk, which must answer each by OK.
func do(t *testing.T, d *disk.Disk, things ...thing) {
	t.Helper()
	for _, x := range things {
		if _, e := x.to(d); e != api.OK {
			t.Fatalf("%v: %d", x, e)
		}
	}
}

// ended is a disk that fails at once, by a thing that leaves nothing.
func ended(t *testing.T, d *disk.Disk) *disk.Disk {
	t.Helper()
	do(t, d, fail(0))
	checkDo(t, d, sync(0), api.ErrDown)
	return d
}

func checkDo(t *testing.T, d *disk.Disk, x thing, want api.Errno) {
	t.Helper()
	if s, e := x.to(d); e != want || e != api.OK && s != "" {
		t.Errorf("%v: %q, %d; want %d", x, s, e, want)
	}
}

func checkRead(t *testing.T, d *disk.Disk, tape int, want string) {
	t.Helper()
	if s, e := d.Read(tape); s != want || e != api.OK {
		t.Errorf("Read(%d) = %.40q (%d bytes), %d; want %.40q (%d bytes)", tape, s, len(s), e, want, len(want))
	}
}

// tapes are all tapes of a disk, most of which have nothing.
func tapes(of map[int]api.Tape) []api.Tape {
	l := make([]api.Tape, api.MaxTapes)
	for t, x := range of {
		l[t] = x
	}
	return l
}

// checkTapes holds a disk's tapes, and how many bytes they are, against what they are to be.
func checkTapes(t *testing.T, d *disk.Disk, want []api.Tape) {
	t.Helper()
	got := d.Tapes()
	if !slices.Equal(got, want) {
		t.Errorf("Tapes() = %s; want %s", told(got), told(want))
	}
	used := 0
	for _, x := range want {
		used += len(x.Firm) + len(x.Loose)
	}
	if d.Used() != used {
		t.Errorf("Used() = %d; want %d", d.Used(), used)
	}
}

func told(l []api.Tape) string {
	s := fmt.Sprintf("%d:", len(l))
	for i, x := range l {
		if x != (api.Tape{}) {
			s += fmt.Sprintf(" %d: %.40q %.40q (%d, %d bytes)", i, x.Firm, x.Loose, len(x.Firm), len(x.Loose))
		}
	}
	return s
}

// checkAll holds all that a disk tells against a plain one.
func checkAll(t *testing.T, d *disk.Disk, p *plain) bool {
	t.Helper()
	ok := true
	wrong := func(form string, values ...any) {
		t.Helper()
		t.Errorf(form, values...)
		ok = false
	}
	want := p.all()
	if got := d.Tapes(); !slices.Equal(got, want) {
		wrong("Tapes() = %s; want %s", told(got), told(want))
	}
	if d.Up() == p.down || d.Used() != p.used() || d.Capacity() != p.capacity {
		wrong("Up() = %v, Used() = %d, Capacity() = %d; want %v, %d, %d", d.Up(), d.Used(), d.Capacity(), !p.down, p.used(), p.capacity)
	}
	for i := -1; i <= api.MaxTapes; i++ {
		s, e := d.Read(i)
		wantS, wantE := p.do(read(i))
		if s != wantS || e != wantE {
			wrong("Read(%d) = %q, %d; want %q, %d", i, s, e, wantS, wantE)
		}
	}
	return ok
}

// pair is a disk, and a plain one, to which the same is done.
type pair struct {
	d     *disk.Disk
	p     *plain
	story []thing
}

func newPair(t *testing.T, capacity int) *pair {
	t.Helper()
	return &pair{d: made(t, capacity), p: newPlain(capacity)}
}

func (b *pair) copied() *pair {
	return &pair{b.d.Copy(), b.p.copied(), slices.Clone(b.story)}
}

// do does it to both: what they answer, and what is told then, must be alike.
func (b *pair) do(t *testing.T, x thing) api.Errno {
	t.Helper()
	b.story = append(b.story, x)
	s, e := x.to(b.d)
	wantS, wantE := b.p.do(x)
	if s != wantS || e != wantE {
		t.Errorf("%v: %q, %d; want %q, %d", x, s, e, wantS, wantE)
	}
	if !checkAll(t, b.d, b.p) || s != wantS || e != wantE {
		t.Fatalf("behind %v", b.story)
	}
	return e
}

// thing is any thing, one in some of which is wrong, for disks of a few bytes.
func (r *row) thing() thing {
	t := []int{0, 1, 2, api.MaxTapes - 1, 2, 0}[r.below(6)]
	if r.odds(12) {
		t = []int{-1, api.MaxTapes, -1 << 63, 1<<63 - 1}[r.below(4)]
	}
	switch r.below(12) {
	case 0, 1, 2, 3:
		return write(t, r.text(9))
	case 4, 5:
		return sync(t)
	case 6, 7:
		return trim(t, r.below(12)-1)
	case 8:
		return wipe(t)
	case 9:
		return read(t)
	case 10:
		return fail(r.below(8) - 1)
	}
	return back(r.keep()...)
}

// keep are some numbers for a Back.
func (r *row) keep() []int {
	var l []int
	for range r.below(6) {
		l = append(l, []int{r.below(12), -r.below(12), int(r.next()), 1<<63 - 1, -1 << 63}[r.below(5)])
	}
	return l
}
