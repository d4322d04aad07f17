package vault

import (
	"slices"

	"baton/api"
	"baton/head"
)

// step is a thing that is to be done on the disk.
type step func() api.Errno

// inTurn does one step behind the other, up to the first one that errs.
func inTurn(steps ...step) api.Errno {
	for _, do := range steps {
		if e := do(); e != api.OK {
			return e
		}
	}
	return api.OK
}

func (v *Vault) toSync(t int) step { return func() api.Errno { return v.on.Sync(t) } }

func (v *Vault) toWipe(t int) step { return func() api.Errno { return v.on.Wipe(t) } }

func (v *Vault) toWrite(t int, s string) step { return func() api.Errno { return v.on.Write(t, s) } }

// toPut is to write a head, behind whose snapshot there are so many records.
func (v *Vault) toPut(h api.Head, since int) step {
	return func() api.Errno {
		e := head.Put(v.on, h)
		if e == api.OK {
			v.head, v.since = h, since
		}
		return e
	}
}

// named are the tapes that a head names, rising.
func named(h api.Head) []int {
	l := slices.Clone(h.Log)
	if h.Snap != 0 {
		l = append(l, h.Snap)
	}
	slices.Sort(l)
	return l
}

// size is how many bytes a tape has, of a disk that is up.
func (v *Vault) size(t int) int {
	s, _ := v.on.Read(t)
	return len(s)
}

// spare is that one of the tapes 0 and 1 on which the next head is written, of a disk that is up.
func (v *Vault) spare() int {
	_, tape, is, _ := head.Load(v.on)
	if !is {
		return 0
	}
	return 1 - tape
}

// room tells whether so many bytes more go on the disk, once some tapes are wiped.
func (v *Vault) room(n int, wiped ...int) bool {
	for _, t := range wiped {
		n -= v.size(t)
	}
	return n <= v.on.Capacity()-v.on.Used()
}
