package vault

import (
	"baton/api"
	"baton/disk"
	"baton/frame"
	"baton/head"
)

// firstTape is where the log of a disk without a head begins.
const firstTape = 2

// Open is the vault on a disk, and what it found there.
func Open(d *disk.Disk, most int) (*Vault, Found, api.Errno) {
	if d == nil {
		return nil, Found{}, api.ErrNil
	}
	if most < 1 || most > api.MaxTape {
		return nil, Found{}, api.ErrArg
	}
	v := &Vault{on: d, most: most}
	var found Found
	e := inTurn(
		func() api.Errno { return v.harden(0, 1) }, // what counts must not be gone behind a failure
		v.findHead,
		v.wipeOthers,
		func() api.Errno { return v.readSnapshot(&found) },
		func() api.Errno { return v.readLog(&found) },
		func() api.Errno { return v.harden(named(v.head)...) },
	)
	if e != api.OK {
		return nil, Found{}, e
	}
	v.since = len(found.Records)
	return v, found, api.OK
}

// harden syncs those of some tapes that have loose bytes.
func (v *Vault) harden(tapes ...int) api.Errno {
	var steps []step
	all := v.on.Tapes()
	for _, t := range tapes {
		if all[t].Loose != "" {
			steps = append(steps, v.toSync(t))
		}
	}
	return inTurn(steps...)
}

// findHead takes the head that counts, or writes the first one.
func (v *Vault) findHead() api.Errno {
	h, _, is, e := head.Load(v.on)
	if e == api.OK && !is {
		return inTurn(v.toWipe(firstTape), v.toPut(api.Head{Gen: 1, Log: []int{firstTape}}, 0))
	}
	v.head = h
	return e
}

// wipeOthers wipes the tapes that were left behind where the disk failed.
func (v *Vault) wipeOthers() api.Errno {
	var steps []step
	for _, t := range head.Free(v.head) {
		if v.size(t) > 0 {
			steps = append(steps, v.toWipe(t))
		}
	}
	return inTurn(steps...)
}

// readSnapshot finds the snapshot, if the head has one.
func (v *Vault) readSnapshot(found *Found) api.Errno {
	if v.head.Snap == 0 {
		return api.OK
	}
	s, e := v.on.Read(v.head.Snap)
	if e != api.OK {
		return e
	}
	found.Snap, found.Has = frame.One(s, frame.Snapshot)
	if !found.Has {
		return api.ErrForm
	}
	return api.OK
}

// readLog finds the records of all the log's tapes.
func (v *Vault) readLog(found *Found) api.Errno {
	var steps []step
	for _, t := range v.head.Log {
		steps = append(steps, func() api.Errno { return v.readTape(t, found) })
	}
	return inTurn(steps...)
}

// readTape finds the records of one of the log's tapes.
func (v *Vault) readTape(t int, found *Found) api.Errno {
	s, e := v.on.Read(t)
	if e != api.OK {
		return e
	}
	frames, good := frame.Scan(s, 0)
	for _, f := range frames {
		if f.Kind != frame.Record {
			return api.ErrForm
		}
		found.Records = append(found.Records, f.Payload)
	}
	switch {
	case good == len(s):
		return api.OK
	case t != v.last(): // it was synced ahead of the next one's first record
		return api.ErrSum
	}
	return v.on.Trim(t, good)
}
