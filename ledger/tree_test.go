package ledger_test

import (
	"slices"
	"strings"
	"testing"

	"baton/api"
	"baton/ledger"
	"baton/tree"
)

// P13.2: bytes that are written out here, but for the checksum.
func TestTreeBytes(t *testing.T) {
	for s, x := range map[string]state{
		"\x00\x00":                     {nil, 0},
		"\x80\x80\x80\x80\x80\x20\x00": {nil, maxRev},
		"\x01\x01\x01a\x00\x01\x01":    {[]api.Entry{{Key: "a", Made: 1, Mod: 1}}, 1},
		"\x07\x02\x01a\x01x\x02\x03\x02b/\x02\x00\xFF\x04\x07": {[]api.Entry{{Key: "a", Val: "x", Made: 2, Mod: 3}, {Key: "b/", Val: "\x00\xFF", Made: 4, Mod: 7}}, 7},
	} {
		checkPutTree(t, made(t, x.rev, x.l...), sealed(s))
		checkTree(t, sealed(s), x.l, x.rev)
	}
	checkPutTree(t, tree.New(), "\x00\x00\x9A\xCD\x28\x92") // its checksum is F16177D2
}

// P13.2, P13.3: trees that may be, at the ends, and any.
func TestTrees(t *testing.T) {
	l := states()
	r := newRow()
	for range 2000 {
		rev := r.number(0, maxRev)
		l = append(l, state{r.entries(rev), rev})
	}
	for _, x := range l {
		checkPutTree(t, made(t, x.rev, x.l...), x.bytes())
		checkTree(t, x.bytes(), x.l, x.rev)
	}
}

// The table of errors: nobody's tree.
func TestPutTreeNil(t *testing.T) {
	if s, e := ledger.PutTree(nil); s != "" || e != api.ErrNil {
		t.Errorf("PutTree(nil) = %x, %d", s, e)
	}
	checkPutTree(t, new(tree.Tree), sealed("\x00\x00"))
	checkPutTree(t, tree.New(), sealed("\x00\x00"))
}

// P13.2: a tree behind puts and deletes, and a Cut, and one at the greatest revision: what happened is not said.
func TestPutTreeDone(t *testing.T) {
	x := built(t, put("b", "x", "a", "y"), put("a", "z", "c", "-"), put("b", "-", "d", ""), put("q", "-"))
	want := state{[]api.Entry{{Key: "a", Val: "z", Made: 1, Mod: 2}, {Key: "d", Made: 3, Mod: 3}}, 4}
	for rev := range int64(5) {
		if e := x.Cut(rev); e != api.OK {
			t.Fatal(e)
		}
		checkPutTree(t, x, want.bytes())
	}
	checkTree(t, want.bytes(), want.l, want.rev)

	x = made(t, maxRev-1, api.Entry{Key: "a", Made: 1, Mod: maxRev - 1})
	if _, done, e := x.Do(put("b", "x")); !done || e != api.OK {
		t.Fatal(done, e)
	}
	want = state{[]api.Entry{{Key: "a", Made: 1, Mod: maxRev - 1}, {Key: "b", Val: "x", Made: maxRev, Mod: maxRev}}, maxRev}
	checkPutTree(t, x, want.bytes())
	checkTree(t, want.bytes(), want.l, want.rev)
}

// The table of errors: fewer than 4 bytes, and 4 or more without a checksum that fits.
func TestTreeShort(t *testing.T) {
	for _, s := range []string{"", "\x00", "\x00\x00", "\x00\x00\x00", masked("")[:3], masked("")[1:], "abc"} {
		checkNoTree(t, s, api.ErrShort)
	}
	for _, s := range []string{"\x00\x00\x00\x00", "abcd", "\x00\x00\x00\x00\x00\x00", strings.Repeat("\xFF", 100), masked("")[1:] + masked("")[:1]} {
		checkNoTree(t, s, api.ErrSum)
	}
	checkNoTree(t, masked(""), api.ErrShort) // it fits, and there is nothing
	checkNoTree(t, sealed("\x00"), api.ErrShort)
	checkNoTree(t, sealed("\x80"), api.ErrShort)
	checkNoTree(t, "\x00"+masked(""), api.ErrSum)
	checkNoTree(t, masked("\x00\x00")+"\x00\x00", api.ErrSum)
}

// The table of errors: whatever is wrong ahead of a checksum that does not fit is not looked at.
func TestTreeSum(t *testing.T) {
	for _, x := range states()[:9] {
		l := treeParts(x.l, x.rev)
		for i, p := range l {
			for _, x := range wrongs(p) {
				s := []byte(sealed(joined(l[:i]) + x.s + joined(l[i+1:])))
				s[len(s)-1-i%4] ^= 1 << (i % 8)
				checkNoTree(t, string(s), api.ErrSum)
			}
		}
		s := joined(l)
		for _, bits := range []uint32{0, 1, 0xFFFFFFFF} { // neither the plain checksum, nor another one
			checkNoTree(t, s+string([]byte{byte(bits), byte(bits >> 8), byte(bits >> 16), byte(bits >> 24)}), api.ErrSum)
		}
		turned := []byte(masked(s))
		slices.Reverse(turned)
		checkNoTree(t, s+string(turned), api.ErrSum)
		checkNoTree(t, s+masked(s+"\x00"), api.ErrSum)
		checkNoTree(t, s+masked(s[1:]), api.ErrSum)
	}
}

// The table of errors: a checksum that fits, and ahead of it a thing that is wrong, in its own place, with another wrong thing
// behind it, or cut short there.
func TestTreeWrong(t *testing.T) {
	for _, x := range []state{{nil, 0}, {nil, maxRev}, {[]api.Entry{{Key: "a", Val: "x", Made: 1, Mod: 2}, {Key: "b", Made: 2, Mod: 2}}, 2}, states()[8]} {
		l := treeParts(x.l, x.rev)
		for i, p := range l {
			ahead := joined(l[:i])
			for _, x := range wrongs(p) {
				for _, behind := range tails(l[i+1:]) {
					checkNoTree(t, sealed(ahead+x.s+behind), x.e)
				}
			}
			for _, s := range cuts(p) {
				checkNoTree(t, sealed(ahead+s), api.ErrShort)
			}
		}
		s := joined(l)
		for cut := range s {
			checkNoTree(t, sealed(s[:cut]), api.ErrShort)
		}
		for b := range 256 {
			checkNoTree(t, sealed(s+string([]byte{byte(b)})), api.ErrForm)
		}
		checkNoTree(t, sealed(s+s), api.ErrForm)
		checkNoTree(t, sealed(sealed(s)), api.ErrForm)
	}
}

// The table of errors: how many entries there are, and how many follow.
func TestTreeCounts(t *testing.T) {
	l := []api.Entry{{Key: "a", Made: 1, Mod: 1}, {Key: "b", Made: 1, Mod: 1}, {Key: "c", Made: 1, Mod: 1}}
	rest := joined(treeParts(l, 1)[2:])
	for n := range uint64(300) {
		switch s := sealed("\x01" + varint(n) + rest); {
		case n == 3:
			checkTree(t, s, l, 1)
		case n < 3:
			checkNoTree(t, s, api.ErrForm)
		default:
			checkNoTree(t, s, api.ErrShort)
		}
	}
	for _, n := range []uint64{1 << 16, 1 << 20, 1<<31 - 1, 1 << 31, 1<<31 + 3, 1<<32 - 2, 1<<32 - 1} {
		checkNoTree(t, sealed("\x01"+varint(n)+rest), api.ErrShort)
		checkNoTree(t, sealed("\x01"+varint(n)), api.ErrShort)
	}
	for _, n := range []uint64{1 << 32, 1<<32 + 1, 1<<32 + 3, 1 << 33, 1<<63 + 3, 1<<64 - 1} {
		checkNoTree(t, sealed("\x01"+varint(n)+rest), api.ErrTooLarge)
		checkNoTree(t, sealed("\x01"+varint(n)), api.ErrTooLarge)
	}
}

// The table of errors: entries that are read, and may not be of that revision; all that can't be read comes ahead of it.
func TestTreeMayNot(t *testing.T) {
	a := func(key string, made, mod int64) api.Entry {
		return api.Entry{Key: key, Val: "v", Made: made, Mod: mod}
	}
	wrong := []state{
		{[]api.Entry{a("b", 1, 1), a("a", 1, 1)}, 5}, {[]api.Entry{a("a", 1, 1), a("a", 1, 1)}, 5}, {[]api.Entry{a("a", 1, 1), a("a", 2, 2)}, 5},
		{[]api.Entry{a("a", 1, 1), a("c", 1, 1), a("b", 1, 1)}, 5}, {[]api.Entry{a("ab", 1, 1), a("a", 1, 1)}, 5}, {[]api.Entry{a("a", 1, 1), a("Z", 1, 1)}, 5},
		{[]api.Entry{a("a", 0, 1)}, 5}, {[]api.Entry{a("a", 0, 0)}, 5}, {[]api.Entry{a("a", 0, 0)}, 0}, {[]api.Entry{a("a", 2, 1)}, 5}, {[]api.Entry{a("a", 1, 0)}, 5},
		{[]api.Entry{a("a", 1, 6)}, 5}, {[]api.Entry{a("a", 6, 6)}, 5}, {[]api.Entry{a("a", 6, 5)}, 5}, {[]api.Entry{a("a", 1, 1)}, 0},
		{[]api.Entry{a("a", 1, maxRev)}, maxRev - 1}, {[]api.Entry{a("a", maxRev, 1)}, maxRev},
		{[]api.Entry{a("a", 1, 1), a("b", 1, 5), a("c", 1, 6)}, 5}, {[]api.Entry{a("a", 0, 1), a("b", 1, 5), a("c", 1, 5)}, 5},
	}
	for _, key := range noKeys {
		wrong = append(wrong, state{[]api.Entry{a(key, 1, 1)}, 5}, state{[]api.Entry{a("-", 1, 1), a(key, 1, 1)}, 5})
	}
	for _, x := range wrong {
		checkNoTree(t, x.bytes(), api.ErrForm)
		l := treeParts(x.l, x.rev)
		s := joined(l)
		checkNoTree(t, sealed(s+"\x00"), api.ErrForm)
		for cut := range s {
			checkNoTree(t, sealed(s[:cut]), api.ErrShort)
		}
		for _, x := range wrongs(l[len(l)-1]) {
			checkNoTree(t, sealed(joined(l[:len(l)-1])+x.s), x.e)
		}
	}
}

// P13.2: a varint may have more bytes than it must, up to 10.
func TestTreeWide(t *testing.T) {
	for _, x := range states()[:9] {
		l := treeParts(x.l, x.rev)
		for i, p := range l {
			n := p.n
			if p.kind == 't' {
				n = uint64(len(p.text))
			}
			for count := len(varint(n)); count <= 10; count++ {
				checkTree(t, sealed(joined(l[:i])+wide(n, count)+p.text+joined(l[i+1:])), x.l, x.rev)
			}
		}
	}
}

// The table of errors: any bytes, mostly with a checksum that fits, held against the plain reader.
func TestTreeAny(t *testing.T) {
	r := newRow()
	var counts [64]int
	for round := range 40000 {
		rev := r.number(0, maxRev)
		l := r.entries(rev)
		l = l[:min(len(l), 3)]
		if len(l) > 0 && r.odds(8) {
			x := &l[r.below(len(l))]
			x.Key, x.Made = some[r.below(len(some))], r.number(0, rev)
		}
		s := sealed(bent(r, joined(treeParts(l, rev)), round))
		if r.odds(8) {
			s = bent(r, s, r.below(6))
		}
		want, rev, e := plainTree(s)
		if counts[e]++; e == api.OK {
			checkTree(t, s, want, rev)
		} else {
			checkNoTree(t, s, e)
		}
	}
	for _, e := range []api.Errno{api.OK, api.ErrForm, api.ErrShort, api.ErrTooLarge, api.ErrSum} {
		if counts[e] < 1000 {
			t.Errorf("error %d: only %d times", e, counts[e])
		}
	}
}
