package head

import (
	"baton/api"
	"baton/disk"
	"baton/frame"
)

// pair is the heads of tapes 0 and 1; that of a tape that has none has Gen 0, which no head has that may be.
type pair [firstTape]api.Head

// counting is the tape on which the head that counts stands, if there is one.
func (both pair) counting() (tape int, is bool) {
	for t, h := range both {
		if h.Gen > both[tape].Gen { // of one generation that on the lesser tape stays
			tape = t
		}
	}
	return tape, both[tape].Gen > 0
}

// Of is the head of a tape's bytes, if they have one.
func Of(tape string) (api.Head, bool) {
	f, _, e := frame.Read(tape, 0)
	if e != api.OK || f.Kind != frame.Head {
		return api.Head{}, false
	}
	h, e := Decode(f.Payload)
	return h, e == api.OK
}

// Load is the head that counts, and the tape on which it stands, if there is one.
func Load(d *disk.Disk) (h api.Head, tape int, is bool, e api.Errno) {
	both, e := heads(d)
	if e != api.OK {
		return api.Head{}, 0, false, e
	}
	tape, is = both.counting()
	return both[tape], tape, is, api.OK
}

// heads is those of both tapes.
func heads(d *disk.Disk) (pair, api.Errno) {
	var both pair
	for t := range both {
		s, e := d.Read(t) // no disk answers for itself
		if e != api.OK {
			return pair{}, e
		}
		both[t], _ = Of(s)
	}
	return both, api.OK
}

// Put writes a head.
func Put(d *disk.Disk, h api.Head) api.Errno {
	if d == nil {
		return api.ErrNil
	}
	s, e := whole(h)
	if e != api.OK {
		return e
	}
	t, e := next(d)
	if e != api.OK {
		return e
	}
	return inTurn([]func() api.Errno{
		func() api.Errno { return d.Wipe(t) },
		func() api.Errno { return d.Write(t, s) },
		func() api.Errno { return d.Sync(t) },
	})
}

// next is the tape on which a head is written: the one that counts stays on its own till that is firm.
func next(d *disk.Disk) (int, api.Errno) {
	_, tape, is, e := Load(d)
	if e != api.OK || !is {
		return 0, e
	}
	return 1 - tape, api.OK
}

// inTurn does one step behind the other, up to the first one that fails.
func inTurn(steps []func() api.Errno) api.Errno {
	for _, step := range steps {
		if e := step(); e != api.OK {
			return e
		}
	}
	return api.OK
}
