package disk

import "baton/api"

// tape is all of a tape's bytes, and how many of them, the first ones, are firm. A string can't be changed, so tapes that
// were copied have nothing to do with each other.
type tape struct {
	bytes string
	firm  int
}

// deed tells what a tape becomes by what is done with it, or why that can't be done.
type deed func(on tape) (tape, api.Errno)

// firm is a tape of these bytes, all firm.
func firm(s string) tape { return tape{s, len(s)} }

func (on tape) loose() int { return len(on.bytes) - on.firm }

func (on tape) written(s string) (tape, api.Errno) {
	if len(s) > api.MaxTape-len(on.bytes) {
		return tape{}, api.ErrTooLarge
	}
	return tape{on.bytes + s, on.firm}, api.OK
}

func (on tape) synced() (tape, api.Errno) { return firm(on.bytes), api.OK }

func (on tape) trimmed(n int) (tape, api.Errno) {
	if n < 0 || n > len(on.bytes) {
		return tape{}, api.ErrArg
	}
	return firm(on.bytes[:n]), api.OK
}

func (on tape) wiped() (tape, api.Errno) { return tape{}, api.OK }

// back is the tape behind a failure; keep says, counted round, how many of its loose bytes stay.
func (on tape) back(keep int) tape {
	stay := uint64(keep) % uint64(on.loose()+1)
	return firm(on.bytes[:on.firm+int(stay)])
}
