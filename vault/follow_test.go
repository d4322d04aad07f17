package vault_test

import (
	"fmt"
	"slices"
	"strings"
	"testing"

	"baton/api"
	"baton/disk"
	"baton/vault"
)

// call is one of a story's.
type call struct {
	what string // Add, Sync or Lay
	s    string
}

// story is what was done with a vault, and what may be found behind a failure.
type story struct {
	was    vault.Found  // the snapshot, and all records behind it, also the one at which it failed
	sure   int          // how many of them are there at least
	laying *vault.Found // what is found if the snapshot at which it failed was laid down
}

// tell does a story, up to the first call that errs.
func tell(v *vault.Vault, l []call) (s story, e api.Errno) {
	for _, c := range l {
		switch c.what {
		case "Add":
			s.was.Records = append(s.was.Records, c.s)
			e = v.Add(c.s)
		case "Sync":
			if e = v.Sync(); e == api.OK {
				s.sure = len(s.was.Records)
			}
		case "Lay":
			next := laid(c.s)
			if e = v.Lay(c.s); e == api.OK {
				s = story{was: next}
			} else {
				s.laying = &next
			}
		}
		if e != api.OK {
			return s, e
		}
	}
	return s, api.OK
}

// may tells whether that may be found behind a story.
func (s story) may(f vault.Found) bool {
	if s.laying != nil && sameFound(f, *s.laying) {
		return true
	}
	n := len(f.Records)
	return f.Has == s.was.Has && f.Snap == s.was.Snap && s.sure <= n && n <= len(s.was.Records) && slices.Equal(f.Records, s.was.Records[:n])
}

// stories go from an empty disk.
func stories() [][]call {
	add := func(s string) call { return call{"Add", s} }
	sync, lay := call{"Sync", ""}, func(s string) call { return call{"Lay", s} }
	return [][]call{
		{add("one")},
		{add("one"), sync, add("two")},
		{add("one"), add("two"), add("three"), sync, add("four"), add("five")},
		{add("one"), lay("snap"), add("two")},
		{add("one"), sync, lay("snap"), add("two"), add("three"), sync, lay("more"), lay("most"), add("four")},
		{lay(""), add(""), add(""), sync, lay("")},
		{add("a record of some bytes"), add("another one"), sync, add(""), lay("a snapshot of some bytes"), add("a third one"), add("a fourth one"), sync, add("a fifth one")},
	}
}

// P10.3: wherever the disk fails, also while it is opened, and whatever stays of what was loose, what is found is what it may be; P10.4: and it is found again.
func TestWhatComesBack(t *testing.T) {
	torn, news := 0, 0
	for _, l := range stories() {
		for _, most := range []int{1, 25, 1000} {
			for n, e := 0, api.ErrDown; e != api.OK; n++ {
				for keep := range 34 {
					d := firm(t)
					fail(t, d, n)
					var s story
					var v *vault.Vault
					if v, _, e = vault.Open(d, most); e == api.OK {
						s, e = tell(v, l)
					}
					if e != api.OK && (e != api.ErrDown || d.Up()) {
						t.Fatalf("behind %d things: %d", n, e)
					}
					back(t, d, keep, keep/2)
					f := comesBack(t, d, most, s)
					if len(f.Records) < len(s.was.Records) {
						torn++
					}
					if s.laying != nil && sameFound(f, *s.laying) {
						news++
					}
				}
			}
		}
	}
	if torn < 100 || news < 100 {
		t.Errorf("only %d with a beginning, %d with the new snapshot", torn, news)
	}
}

// comesBack opens it, with each number of things ahead of a failure of that, and then again.
func comesBack(t *testing.T, d *disk.Disk, most int, s story) vault.Found {
	t.Helper()
	for n := 0; ; n++ {
		c := d.Copy()
		fail(t, c, n)
		v, f, e := vault.Open(c, most)
		if e == api.OK && v != nil && !s.may(f) {
			t.Fatalf("it found %s; there were %s, %d at least", show(f), show(s.was), s.sure)
		}
		if e == api.OK {
			back(t, c)
			was := c.Copy()
			open(t, c, 7, f)
			checkDisk(t, c, was)
			return f
		}
		checkE(t, "Open", e, api.ErrDown)
		back(t, c, 3*n)
		again, f, e := vault.Open(c, most)
		if again == nil || e != api.OK || !s.may(f) {
			t.Fatalf("behind another failure: %s, %d; there were %s, %d at least", show(f), e, show(s.was), s.sure)
		}
	}
}

// P10.3: one life behind the other, in each of which the disk fails somewhere; what is found is what the next one goes on from.
func TestLives(t *testing.T) {
	r := newRow()
	lives, lays := 0, 0
	for range 60 {
		d := sized(t, 700+r.below(1000))
		most := 1 + r.below(80)
		var s story
		count := int64(0)
		for range 30 {
			if r.odds(2) {
				fail(t, d, r.below(40))
			}
			v, f, e := vault.Open(d, most)
			if e == api.OK {
				if !s.may(f) {
					t.Fatalf("it found %s; there were %s, %d at least", show(f), show(s.was), s.sure)
				}
				if v.Count() < count {
					t.Fatalf("Count fell from %d to %d", count, v.Count())
				}
				lives++
				s = story{was: vault.Found{Has: f.Has, Snap: f.Snap, Records: slices.Clone(f.Records)}, sure: len(f.Records)}
				count = r.live(v, &s)
				if s.laying != nil {
					lays++
				}
			}
			back(t, d, r.keep()...)
		}
	}
	if lives < 1000 || lays < 100 {
		t.Errorf("only %d lives, %d that ended while a snapshot was laid down", lives, lays)
	}
}

// live does something with a vault till the disk fails, or it is enough, and tells how many records are there for good.
func (r *row) live(v *vault.Vault, s *story) int64 {
	count := v.Count()
	for i := range 1 + r.below(20) {
		switch x := fmt.Sprint(i, r.text(12)); r.below(6) {
		case 0:
			next := laid(x)
			switch v.Lay(x) {
			case api.OK:
				*s, count = story{was: next}, v.Count()
			case api.ErrDown:
				s.laying = &next
				return count
			}
		case 1:
			if v.Sync() != api.OK {
				return count
			}
			s.sure, count = len(s.was.Records), v.Count()
		default:
			e := v.Add(x)
			if e != api.ErrFull {
				s.was.Records = append(s.was.Records, x)
			}
			if e == api.ErrDown {
				return count
			}
		}
	}
	return count
}

// P10.2, P10.5: long rows of any calls, on disks with little room, that fail, or have bytes that nobody asked for, held against a plain vault.
func TestAnyWay(t *testing.T) {
	r := newRow()
	var adds, lays [64]int
	for round := range 500 {
		d := sized(t, 30+r.below(50+round))
		most := 1 + r.below(70)
		w, _, e := twinOf(t, d, most)
		for i := 0; i < 60 && e == api.OK; i++ {
			switch r.below(12) {
			case 0:
				lays[w.lay(t, r.text(20))]++
			case 1, 2:
				w.sync(t)
			case 3:
				n := r.below(25)
				w.both(func(d *disk.Disk) { d.Fail(n) })
			case 4:
				on, s, gone := r.below(8), r.text(12), r.odds(2)
				w.both(func(d *disk.Disk) { junk(d, w.v.Head(), on, s, gone) })
			case 5:
				if !d.Up() || r.odds(3) {
					keep := r.keep()
					d.Back(keep)
					w, _, e = twinOf(t, d, 1+r.below(70))
				}
			case 6:
				checkE(t, "Add", w.add(t, text(maxFrame+1)), api.ErrTooLarge)
				checkE(t, "Lay", w.lay(t, text(maxFrame+1)), api.ErrTooLarge)
			default:
				adds[w.add(t, r.text(14))]++
			}
		}
	}
	for _, e := range []api.Errno{api.OK, api.ErrFull, api.ErrDown} {
		if adds[e] < 500 || lays[e] < 100 {
			t.Errorf("error %d: only %d records, %d snapshots", e, adds[e], lays[e])
		}
	}
}

// junk writes bytes on a tape that is none of the head's.
func junk(d *disk.Disk, h api.Head, on int, s string, synced bool) {
	if on < 2 || on == h.Snap || slices.Contains(h.Log, on) {
		return
	}
	d.Write(on, s)
	if synced {
		d.Sync(on)
	}
}

// P10.6: behind each call a log's tape has at most most bytes, or one frame alone; tapes that the head does not name have no bytes; the generation rises by one with each head that is written.
func TestTapes(t *testing.T) {
	r := newRow()
	gens := 0
	for range 60 {
		d := sized(t, 300+r.below(2000))
		most := 1 + r.below(100)
		v := open(t, d, most, vault.Found{})
		for range 100 {
			h := v.Head()
			heads := [2]api.Tape(d.Tapes())
			if r.odds(20) {
				v.Lay(r.text(30))
			} else {
				v.Add(r.text(120))
			}
			checkTapes(t, d, v.Head(), most)
			rises := int64(0)
			if [2]api.Tape(d.Tapes()) != heads {
				rises = 1
				gens++
			}
			if v.Head().Gen != h.Gen+rises {
				t.Fatalf("the generation was %d, is %d; %d heads were written", h.Gen, v.Head().Gen, rises)
			}
		}
	}
	if gens < 500 {
		t.Errorf("only %d heads were written", gens)
	}
}

func checkTapes(t *testing.T, d *disk.Disk, h api.Head, most int) {
	t.Helper()
	for i, x := range d.Tapes() {
		kinds, _, rest := scanned(x.Firm + x.Loose)
		switch {
		case i < 2:
			if i == int(h.Gen+1)%2 && x != (api.Tape{Firm: whole(h)}) {
				t.Fatalf("tape %d is %q; the head is %v", i, x, h)
			}
		case i == h.Snap:
			if kinds != "\x02" || rest != "" || x.Loose != "" {
				t.Fatalf("the snapshot's tape is %q", x)
			}
		case slices.Contains(h.Log, i):
			if strings.Trim(kinds, "\x01") != "" || rest != "" || len(x.Firm+x.Loose) > most && len(kinds) > 1 {
				t.Fatalf("the log's tape %d has %d bytes, in %d frames", i, len(x.Firm+x.Loose), len(kinds))
			}
		case x != (api.Tape{}):
			t.Fatalf("tape %d is %q; the head is %v", i, x, h)
		}
	}
}

// P10.7: what is cut anywhere on the log's last tape leaves the frames that are whole, and no more.
func TestCut(t *testing.T) {
	l := []string{"one", "", "three", "four"}
	all := records(l...)
	for n := range len(all) + 1 {
		kinds, _, rest := scanned(all[:n])
		d := firm(t, whole(first()), "", all[:n])
		v := open(t, d, 100, logged(l[:len(kinds)]...))
		checkDisk(t, d, firm(t, whole(first()), "", all[:n-len(rest)]))
		checkE(t, "Add", v.Add("behind"), api.OK)
		open(t, d, 100, logged(append(slices.Clone(l[:len(kinds)]), "behind")...))
	}
	for i := range len(all) { // one byte another one
		bent := all[:i] + string([]byte{all[i] ^ 4}) + all[i+1:]
		kinds, payloads, rest := scanned(bent)
		d := firm(t, whole(first()), "", bent)
		open(t, d, 100, logged(payloads...))
		checkDisk(t, d, firm(t, whole(first()), "", bent[:len(bent)-len(rest)]))
		if len(kinds) == len(l) {
			t.Errorf("byte %d is another one, and nothing is torn", i)
		}
	}
}

// R1: what is told shares nothing with what is kept.
func TestToldApart(t *testing.T) {
	d := firm(t, keptTapes()...)
	v, f, e := vault.Open(d, 1)
	if e != api.OK {
		t.Fatal(e)
	}
	h := v.Head()
	for i := range h.Log {
		h.Log[i] = 99
	}
	_ = append(v.Head().Log[:1], 98, 97)
	for i := range f.Records {
		f.Records[i] = "bent"
	}
	checkHead(t, v, kept(), 6)
	checkDisk(t, d, firm(t, keptTapes()...))
	checkE(t, "Add", v.Add("x"), api.OK)
	next := api.Head{Gen: 8, Base: 9, Snap: 5, Log: []int{4, 3, 6, 2}}
	checkHead(t, v, next, 7)
	old := v.Head()
	checkE(t, "Add", v.Add("y"), api.OK)
	if !sameHead(old, next) {
		t.Errorf("what was told became %v", old)
	}
	_ = append(old.Log, 96)
	checkHead(t, v, api.Head{Gen: 9, Base: 9, Snap: 5, Log: []int{4, 3, 6, 2, 7}}, 8)
	open(t, d, 1, laid("snap", "a", "", "b", "c", "d", "e", "x", "y"))
}

// P10.2, and the table of errors: nobody's vault, and one that was never opened.
func TestNobody(t *testing.T) {
	for _, v := range []*vault.Vault{nil, new(vault.Vault)} {
		for _, s := range []string{"", "a", text(maxFrame + 1)} {
			checkE(t, "Add", v.Add(s), api.ErrNil)
			checkE(t, "Lay", v.Lay(s), api.ErrNil)
		}
		checkE(t, "Sync", v.Sync(), api.ErrNil)
		checkHead(t, v, api.Head{}, 0)
	}
}

// P10.2: a vault whose disk is down tells of itself what it knew, and does nothing any more.
func TestDown(t *testing.T) {
	d := firm(t, keptTapes()...)
	v := open(t, d, 100, laid("snap", "a", "", "b", "c", "d", "e"))
	checkE(t, "Add", v.Add("f"), api.OK)
	ended(t, d)
	was := d.Copy()
	for range 3 {
		checkE(t, "Add", v.Add("g"), api.ErrDown)
		checkE(t, "Lay", v.Lay("s"), api.ErrDown)
		checkE(t, "Sync", v.Sync(), api.ErrDown)
		checkHead(t, v, kept(), 7)
	}
	checkDisk(t, d, was)
}

// R1: no call panics, or fails to end, whatever the disk has; also one that another vault, or anybody, changes meanwhile.
func TestWhatever(t *testing.T) {
	r := newRow()
	for range 2000 {
		l := make([]api.Tape, r.below(maxTapes+1))
		for i := range l {
			l[i] = api.Tape{Firm: r.text(30), Loose: r.text(3)}
		}
		d := made(t, room, l...)
		if r.odds(2) {
			d = r.disk(t)
		}
		var vaults []*vault.Vault
		for range 20 {
			if v, _, e := vault.Open(d, r.below(60)); e == api.OK {
				vaults = append(vaults, v)
			}
			for _, v := range vaults {
				v.Add(r.text(20))
				v.Lay(r.text(20))
				v.Sync()
				v.Head()
				v.Count()
				v.Since()
			}
			if r.odds(3) {
				d.Wipe(r.below(maxTapes))
				d.Write(r.below(maxTapes), r.text(20))
				d.Fail(r.below(9))
			}
			if r.odds(3) {
				d.Back(r.keep())
			}
		}
	}
	vault.Open(new(disk.Disk), 1)
}
