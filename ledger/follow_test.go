package ledger_test

import (
	"slices"
	"strings"
	"testing"

	"baton/api"
	"baton/ledger"
	"baton/tree"
)

// putTxn is a transaction's bytes, by the package.
func putTxn(t *testing.T, x api.Txn) string {
	t.Helper()
	s, e := ledger.PutTxn(x)
	if e != api.OK {
		t.Fatalf("PutTxn(%s): %d", shown(x), e)
	}
	return s
}

// again is a transaction that was put, and read.
func again(t *testing.T, x api.Txn) api.Txn {
	t.Helper()
	y, e := ledger.Txn(putTxn(t, x))
	if e != api.OK {
		t.Fatalf("Txn of PutTxn(%s): %d", shown(x), e)
	}
	return y
}

func putTree(t *testing.T, x *tree.Tree) string {
	t.Helper()
	s, e := ledger.PutTree(x)
	if e != api.OK {
		t.Fatalf("PutTree(%s): %d", told(x), e)
	}
	return s
}

// againTree is a tree that was put, and read.
func againTree(t *testing.T, x *tree.Tree) *tree.Tree {
	t.Helper()
	y, e := ledger.Tree(putTree(t, x))
	if y == nil || e != api.OK {
		t.Fatalf("Tree of PutTree(%s): %d", told(x), e)
	}
	return y
}

// P13.3: what is put, and read, is the same, transactions and trees, also behind puts, deletes and Cuts.
func TestBack(t *testing.T) {
	for _, x := range right() {
		if y := again(t, x); !equal(x, y) {
			t.Errorf("%s became %s", shown(x), shown(y))
		}
	}
	r := newRow()
	for range 300 {
		x := tree.New()
		if r.odds(2) {
			rev := r.number(0, maxRev-100)
			x = made(t, rev, r.entries(rev)...)
		}
		for range r.below(30) {
			txn := r.txn(x, some)
			if y := again(t, txn); !equal(txn, y) {
				t.Errorf("%s became %s", shown(txn), shown(y))
			}
			if x.Do(txn); r.odds(8) {
				x.Cut(x.Rev() - int64(r.below(3)))
			}
		}
		y := againTree(t, x)
		if !slices.Equal(x.List(""), y.List("")) || x.Rev() != y.Rev() || y.Low() != x.Rev() {
			t.Errorf("%s became %s", told(x), told(y))
		}
		if !tree.Same(y, againTree(t, y)) || putTree(t, y) != putTree(t, x) {
			t.Errorf("%s: put twice it is another one", told(x))
		}
	}
}

// P13.3: whatever PutTxn does not refuse is read again.
func TestBackAny(t *testing.T) {
	r := newRow()
	var counts [64]int
	for range 20000 {
		x := r.any()
		s, e := ledger.PutTxn(x)
		counts[e]++
		switch {
		case e == api.OK:
			checkTxn(t, s, x, api.OK)
		case s != "" || e != api.ErrForm || tree.MayTxn(x):
			t.Errorf("PutTxn(%s) = %x, %d", shown(x), s, e)
		}
	}
	if counts[api.OK] < 1000 || counts[api.ErrForm] < 1000 {
		t.Error("too few of a kind:", counts[:5])
	}
}

// P13.4: a tree that is put and read now and then, and to which transactions were done that were put and read, goes on as the
// one to which they were done at once.
func TestGoesOn(t *testing.T) {
	r := newRow()
	var count [3]int
	for range 300 {
		x := tree.New()
		if r.odds(2) {
			rev := r.number(0, maxRev)
			x = made(t, rev, r.entries(rev)...)
		}
		y := x.Copy()
		for range 40 {
			if r.odds(5) {
				y = againTree(t, y)
			}
			txn := r.txn(x, some)
			events, done, e := x.Do(txn)
			events2, done2, e2 := y.Do(again(t, txn))
			if !slices.Equal(events, events2) || done != done2 || e != e2 {
				t.Fatalf("Do(%s): %s, %t, %d; at once %s, %t, %d", shown(txn), shown(events2), done2, e2, shown(events), done, e)
			}
			switch {
			case done:
				count[0]++
			case e == api.OK:
				count[1]++
			case e == api.ErrTooLarge:
				count[2]++
			}
			if !slices.Equal(x.List(""), y.List("")) || x.Rev() != y.Rev() {
				t.Fatalf("behind %s: %s; at once %s", shown(txn), told(y), told(x))
			}
			was, e := x.Since("", y.Low()+1)
			is, e2 := y.Since("", y.Low()+1)
			if !slices.Equal(was, is) || e != e2 {
				t.Fatalf("since %d: %s, %d; at once %s, %d", y.Low()+1, shown(is), e2, shown(was), e)
			}
		}
	}
	if slices.Min(count[:]) < 100 {
		t.Error("too few of a kind:", count)
	}
}

// P13.4: a log of transactions, behind a tree, both as bytes, come to the same wherever the tree was put.
func TestLog(t *testing.T) {
	r := newRow()
	for range 20 {
		x := tree.New()
		log, snaps := []string{}, []string{putTree(t, x)}
		for range 30 {
			txn := r.txn(x, some)
			if _, done, _ := x.Do(txn); done && len(txn.Ops) > 0 {
				log, snaps = append(log, putTxn(t, txn)), append(snaps, putTree(t, x))
			}
		}
		for i, s := range snaps {
			y, e := ledger.Tree(s)
			if e != api.OK {
				t.Fatal(e)
			}
			for _, s := range log[i:] {
				txn, e := ledger.Txn(s)
				if _, done, e2 := y.Do(txn); !done || e != api.OK || e2 != api.OK {
					t.Fatalf("Do(%s) = %t, %d, %d", shown(txn), done, e, e2)
				}
			}
			if putTree(t, y) != putTree(t, x) {
				t.Errorf("from %d on: %s; at once %s", i, told(y), told(x))
			}
		}
	}
}

// xor is a text in which the bits of a burst, the lowest one ahead, are turned from a place on.
func xor(s string, burst uint64, at int) string {
	b := []byte(s)
	for ; burst != 0; burst, at = burst>>1, at+1 {
		b[at/8] ^= byte(burst&1) << (at % 8)
	}
	return string(b)
}

// checkBursts: bytes with a burst of so many bits, from any place on, that ends at a bit, are refused.
func checkBursts(t *testing.T, s string, burst uint64, size, from, end int) {
	t.Helper()
	for at := from; at+size <= end; at++ {
		if x, e := ledger.Tree(xor(s, burst, at)); x != nil || e != api.ErrSum {
			t.Fatalf("%.100x with the burst %b at %d: %d", s, burst, at, e)
		}
	}
}

// P13.5: bursts of up to 32 bits, all ahead of the checksum, or all in it.
func TestBursts(t *testing.T) {
	r := newRow()
	l := []string{putTree(t, tree.New())}
	for _, x := range states()[1:9] {
		l = append(l, x.bytes())
	}
	for range 3 {
		rev := r.number(1, maxRev)
		l = append(l, plainTreeBytes(r.entries(rev), rev))
	}
	for _, s := range l {
		parted, end := 8*(len(s)-4), 8*len(s)
		for size := 1; size <= 32; size++ {
			ends := uint64(1)<<(size-1) | 1
			bursts := []uint64{ends, 1<<size - 1, ends | r.next()&(1<<size-1), ends | r.next()&(1<<size-1)}
			if size < 7 { // all of them
				bursts = nil
				for burst := ends; burst < 1<<size; burst += 2 {
					bursts = append(bursts, burst)
				}
			}
			for _, burst := range bursts {
				checkBursts(t, s, burst, size, 0, parted)
				checkBursts(t, s, burst, size, parted, end)
			}
		}
	}
}

// P13.5: with every bit turned, one by one; and bytes with another byte anywhere.
func TestBits(t *testing.T) {
	for _, x := range states() {
		s := x.bytes()
		checkBursts(t, s, 1, 1, 0, 8*len(s))
	}
	s := states()[8].bytes()
	for i := range len(s) {
		for b := range 255 {
			checkBursts(t, s, uint64(b+1), 8, 8*i, 8*i+8)
		}
	}
}

// P13.5: cut short anywhere.
func TestTreeCut(t *testing.T) {
	r := newRow()
	l := states()
	for range 100 {
		rev := r.number(1, maxRev)
		l = append(l, state{r.entries(rev), rev})
	}
	for _, x := range l {
		s := x.bytes()
		for cut := range s {
			x, e := ledger.Tree(s[:cut])
			if _, _, want := plainTree(s[:cut]); x != nil || e == api.OK || e != want || cut < 4 && e != api.ErrShort {
				t.Errorf("%.100x, the first %d bytes: %d; want %d", s, cut, e, want)
			}
		}
	}
}

// P13.5: cut short where what stands in a value is the checksum of what is ahead: there are fewer entries than are said.
func TestTreeCutAtSum(t *testing.T) {
	x := state{[]api.Entry{{Key: "a", Val: "text", Made: 1, Mod: 1}, {Key: "b", Val: "more", Made: 2, Mod: 3}}, 3}
	for _, at := range []int{0, 1} {
		l := treeParts(x.l, x.rev)
		ahead := joined(l[:2+4*at+1]) + "\x04"
		x.l[at].Val = masked(ahead)
		s := x.bytes()
		if !strings.HasPrefix(s, sealed(ahead)) {
			t.Fatalf("%x, %x", s, ahead)
		}
		checkTree(t, s, x.l, x.rev)
		checkNoTree(t, sealed(ahead), api.ErrShort)
	}
}

// P13.6: what is read of any bytes may be; its bytes are no more, and are read as the same.
func TestHold(t *testing.T) {
	r := newRow()
	shorter, read := 0, 0
	for round := range 60000 {
		s := bent(r, plainTxnBytes(r.any()), round)
		if r.odds(4) {
			s = wideTxn(r, r.txn(nil, some))
		}
		x, e := ledger.Txn(s)
		if e != api.OK {
			continue
		}
		read++
		put, e := ledger.PutTxn(x)
		if !tree.MayTxn(x) || e != api.OK || len(put) > len(s) {
			t.Errorf("Txn(%x) = %s; PutTxn %x, %d", s, shown(x), put, e)
		}
		if len(put) < len(s) {
			shorter++
		} else if put != s {
			t.Errorf("%x is read as %s, whose bytes are %x", s, shown(x), put)
		}
		checkTxn(t, put, x, api.OK)
	}
	if read < 10000 || shorter < 5000 {
		t.Error("too few:", read, shorter)
	}
}

// wideTxn is a transaction's bytes, some varints in more of them than must be.
func wideTxn(r *row, x api.Txn) string {
	s := ""
	for _, p := range parts(x) {
		s += p.wider(r)
	}
	return s
}

// wider is a part, its varint in any number of bytes.
func (p part) wider(r *row) string {
	n := p.n
	switch {
	case p.kind == 'b' || r.odds(2):
		return p.String()
	case p.kind == 't':
		n = uint64(len(p.text))
	}
	least := len(varint(n))
	return wide(n, least+r.below(11-least)) + p.text
}

// P13.6: the same of trees.
func TestHoldTree(t *testing.T) {
	r := newRow()
	shorter, read := 0, 0
	for round := range 20000 {
		rev := r.number(0, maxRev)
		l := treeParts(r.entries(rev), rev)
		s := joined(l)
		if r.odds(2) {
			s = ""
			for _, p := range l {
				s += p.wider(r)
			}
		}
		s = sealed(bent(r, s, round))
		x, e := ledger.Tree(s)
		if e != api.OK {
			continue
		}
		read++
		put := putTree(t, x)
		if !plainMayEntries(x.List(""), x.Rev()) || x.Low() != x.Rev() || len(put) > len(s) {
			t.Errorf("Tree(%x) = %s; PutTree %x", s, told(x), put)
		}
		if len(put) < len(s) {
			shorter++
		} else if put != s {
			t.Errorf("%x is read as %s, whose bytes are %x", s, told(x), put)
		}
		if y, e := ledger.Tree(put); !tree.Same(x, y) || e != api.OK {
			t.Errorf("%x, put again, is read as another one, %d", s, e)
		}
	}
	if read < 5000 || shorter < 1000 {
		t.Error("too few:", read, shorter)
	}
}

// P13.1, P13.3: unlike transactions have unlike bytes, and none begins by another one's.
func TestUnlike(t *testing.T) {
	r := newRow()
	l := []string{}
	for _, x := range right() {
		l = append(l, putTxn(t, x))
	}
	all := map[string]api.Txn{}
	for range 5000 {
		x := r.txn(nil, some[:6])
		s := putTxn(t, x)
		if y, is := all[s]; is && !equal(x, y) {
			t.Errorf("%s and %s have the same bytes", shown(x), shown(y))
		}
		if all[s] = x; r.odds(10) {
			l = append(l, s)
		}
	}
	for _, a := range l {
		for _, b := range l {
			if a != b && strings.HasPrefix(a, b) {
				t.Errorf("%x begins by %x", a, b)
			}
		}
	}
}

// R1: what is handed in stays, also what stands behind its lists; what is told shares nothing with it, or with what is told again.
func TestApart(t *testing.T) {
	behind := api.Txn{Conds: conds(5), Ops: ops(5)}
	x := api.Txn{Conds: behind.Conds[:2], Ops: behind.Ops[:3]}
	s := putTxn(t, x)
	if !slices.Equal(behind.Conds, conds(5)) || !slices.Equal(behind.Ops, ops(5)) {
		t.Errorf("it became %s", shown(behind))
	}
	x.Conds[0], x.Ops[0] = api.Cond{Key: "other"}, api.Op{Key: "other"}
	want := api.Txn{Conds: conds(2), Ops: ops(3)}
	checkTxn(t, s, want, api.OK)

	y, _ := ledger.Txn(s)
	y.Conds[0].Key, y.Ops[0].Del = "other", true
	_, _ = append(y.Conds[:1], api.Cond{}), append(y.Ops[:1], api.Op{})
	checkTxn(t, s, want, api.OK)

	a := built(t, put("a", "x"))
	s = putTree(t, a)
	b, c := againTree(t, a), againTree(t, a)
	b.Do(put("a", "-", "b", "y"))
	a.Do(put("a", "z"))
	a.Cut(2)
	checkTree(t, s, []api.Entry{{Key: "a", Val: "x", Made: 1, Mod: 1}}, 1)
	if l := c.List(""); len(l) != 1 || l[0].Val != "x" || c.Rev() != 1 {
		t.Errorf("it became %s", told(c))
	}
}

// R1: no call panics or fails to end, whatever it is handed.
func TestWhatever(t *testing.T) {
	r := newRow()
	long := strings.Repeat("\xFF", 1<<20)
	for _, s := range []string{long, "\x08" + long, "\x00\x08" + long, strings.Repeat("\x00", 1<<20), strings.Repeat("\x01", 1<<20)} {
		ledger.Txn(s)
		ledger.Tree(s)
		ledger.Tree(sealed(s))
		ledger.Tree(sealed("\x00\xFF\xFF\xFF\xFF\x0F" + s))
	}
	for range 20000 {
		x := api.Txn{}
		for range r.below(12) {
			x.Conds = append(x.Conds, api.Cond{Key: r.text(80), Mod: int64(r.next())})
			x.Ops = append(x.Ops, api.Op{Del: r.odds(2), Key: r.text(80), Val: r.text(150)})
		}
		ledger.PutTxn(x)
		s := r.text(60)
		ledger.Txn(s)
		ledger.Tree(s)
		ledger.Tree(sealed(s))
	}
}
