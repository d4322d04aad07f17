package ledger_test

import (
	"slices"
	"strings"
	"testing"

	"baton/api"
)

// P13.1: the chapter's examples.
func TestExamples(t *testing.T) {
	checkPutTxn(t, put("a", "x"), "\x00\x01\x00\x01\x61\x01\x78", api.OK)
	checkTxn(t, "\x00\x01\x00\x01\x61\x01\x78", put("a", "x"), api.OK)
	checkWrong(t, "\x00\x01\x02\x01\x61\x01\x78", api.ErrForm)
	checkPutTree(t, built(t), "\x00\x00"+masked("\x00\x00"))
	checkTree(t, "\x00\x00"+masked("\x00\x00"), nil, 0)
}

// P13.1: bytes that are written out here.
func TestTxnBytes(t *testing.T) {
	for s, x := range map[string]api.Txn{
		"\x00\x00":                                          {},
		"\x01\x01a\x00\x00":                                 {Conds: []api.Cond{{Key: "a"}}},
		"\x01\x01a\x7F\x00":                                 {Conds: []api.Cond{{Key: "a", Mod: 127}}},
		"\x01\x02a/\xAC\x02\x00":                            {Conds: []api.Cond{{Key: "a/", Mod: 300}}},
		"\x01\x01a\x80\x80\x80\x80\x80\x20\x00":             {Conds: []api.Cond{{Key: "a", Mod: maxRev}}},
		"\x00\x01\x01\x01a":                                 put("a", "-"),
		"\x00\x01\x00\x01a\x00":                             put("a", ""),
		"\x00\x02\x01\x01b\x00\x01a\x02\x00\xFF":            put("b", "-", "a", "\x00\xFF"),
		"\x02\x01b\x01\x01a\x02\x02\x00\x01d\x01e\x01\x01c": {Conds: []api.Cond{{Key: "b", Mod: 1}, {Key: "a", Mod: 2}}, Ops: put("d", "e", "c", "-").Ops},
	} {
		checkPutTxn(t, x, s, api.OK)
		checkTxn(t, s, x, api.OK)
	}
	checkPutTxn(t, put("a", strings.Repeat("v", 128)), "\x00\x01\x00\x01a\x80\x01"+strings.Repeat("v", 128), api.OK)
}

// P13.1, P13.3: transactions that may be, at the ends, and any.
func TestTxnMay(t *testing.T) {
	for _, x := range right() {
		checkMay(t, x, true)
	}
	checkMay(t, api.Txn{Conds: []api.Cond{}, Ops: []api.Op{}}, true)
	r := newRow()
	for range 20000 {
		checkMay(t, r.txn(nil, some), true)
	}
}

// The table of errors: how many conditions, and ops.
func TestPutTxnCounts(t *testing.T) {
	for i := range maxConds + 4 {
		for j := range maxOps + 4 {
			checkMay(t, api.Txn{Conds: conds(i), Ops: ops(j)}, i <= maxConds && j <= maxOps)
		}
	}
	checkMay(t, api.Txn{Conds: slices.Repeat(conds(1), 1<<20)}, false)
	checkMay(t, api.Txn{Ops: slices.Repeat(ops(1), 1<<20)}, false)
}

// The table of errors: a condition, wherever it stands.
func TestPutTxnConds(t *testing.T) {
	check := func(c api.Cond, want bool) {
		t.Helper()
		for at := range maxConds {
			l := conds(maxConds)
			l[at] = c
			checkMay(t, api.Txn{Conds: l, Ops: ops(2)}, want)
		}
	}
	for _, mod := range []int64{-1 << 63, -maxRev, -1, 0, 1, 127, 128, maxRev - 1, maxRev, maxRev + 1, 2 * maxRev, 1<<63 - 1} {
		check(api.Cond{Key: "a", Mod: mod}, mod >= 0 && mod <= maxRev)
	}
	for _, n := range []int{0, 1, 2, maxKey - 1, maxKey, maxKey + 1, maxKey + 2, 127, 128, 1 << 20} {
		check(api.Cond{Key: strings.Repeat("k", n)}, n >= 1 && n <= maxKey)
	}
	for _, key := range noKeys {
		check(api.Cond{Key: key}, false)
	}
	check(api.Cond{Key: conds(1)[0].Key, Mod: 5}, true) // a key may have more of them
}

// The table of errors: an op, wherever it stands.
func TestPutTxnOps(t *testing.T) {
	check := func(op api.Op, want bool) {
		t.Helper()
		for at := range maxOps {
			l := ops(maxOps)
			l[at] = op
			checkMay(t, api.Txn{Conds: conds(2), Ops: l}, want)
		}
	}
	for _, n := range []int{0, 1, 2, maxKey - 1, maxKey, maxKey + 1, maxKey + 2, 127, 128, 1 << 20} {
		check(api.Op{Key: strings.Repeat("k", n), Val: "v"}, n >= 1 && n <= maxKey)
		check(api.Op{Del: true, Key: strings.Repeat("k", n)}, n >= 1 && n <= maxKey)
	}
	for _, n := range []int{0, 1, 2, maxVal - 2, maxVal - 1, maxVal, maxVal + 1, maxVal + 2, 1 << 20} {
		check(api.Op{Key: "a", Val: strings.Repeat("\x80", n)}, n <= maxVal)
		check(api.Op{Del: true, Key: "a", Val: strings.Repeat("\x80", n)}, n == 0)
	}
	for _, key := range noKeys {
		check(api.Op{Key: key}, false)
		check(api.Op{Del: true, Key: key}, false)
	}
	for i := range maxOps {
		for j := range i {
			for kind := range 4 { // two ops of one key
				l := ops(maxOps)
				l[i] = api.Op{Del: kind&1 != 0, Key: l[j].Key}
				l[j] = api.Op{Del: kind&2 != 0, Key: l[j].Key}
				checkMay(t, api.Txn{Ops: l}, false)
			}
		}
	}
}

// The table of errors: of nothing, cut short at every byte, and with bytes more behind.
func TestTxnCut(t *testing.T) {
	r := newRow()
	l := right()
	for range 200 {
		l = append(l, r.txn(nil, some))
	}
	for _, x := range l {
		s := plainTxnBytes(x)
		for cut := range s {
			checkWrong(t, s[:cut], api.ErrShort)
		}
		for b := range 256 {
			checkWrong(t, s+string([]byte{byte(b)}), api.ErrForm)
		}
		checkWrong(t, s+s, api.ErrForm)
	}
	checkWrong(t, "", api.ErrShort)
}

// bad is what may stand in a part's place, and is wrong, whatever stands behind it.
type bad struct {
	s string
	e api.Errno
}

// wrongs are such, of each kind that there is.
func wrongs(p part) []bad {
	var l []bad
	if p.kind == 'b' {
		for b := 2; b < 256; b++ {
			l = append(l, bad{string([]byte{byte(b)}), api.ErrForm})
		}
		return l
	}
	for _, n := range []uint64{p.most + 1, p.most + 2, 2*p.most + 1, 1 << 32, 1<<32 + 1, 1 << 41, 1<<63 - 1, 1 << 63, 1<<64 - 1} {
		if n > p.most {
			l = append(l, bad{varint(n), api.ErrTooLarge}, bad{wide(n, 10), api.ErrTooLarge})
		}
	}
	nine := strings.Repeat("\xFF", 9)
	for _, s := range []string{nine + "\x02", nine + "\x80", nine + "\xFF", strings.Repeat("\x80", 10)} {
		l = append(l, bad{s, api.ErrForm})
	}
	if p.kind == 't' { // it is too long, and stands there
		for _, n := range []int{int(p.most) + 1, 1000} {
			l = append(l, bad{text(strings.Repeat("k", n), 0).String(), api.ErrTooLarge})
		}
	}
	return l
}

// cuts are what may stand in a part's place, and at the end: there are fewer bytes than there must be.
func cuts(p part) []string {
	l := []string{""}
	if p.kind == 'b' {
		return l
	}
	for count := 1; count < 10; count++ {
		l = append(l, strings.Repeat("\x80", count), strings.Repeat("\xFF", count))
	}
	if p.kind == 't' {
		for _, n := range []uint64{1, 2, p.most} {
			l = append(l, varint(n), wide(n, 10), varint(n)+strings.Repeat("k", int(n)-1))
		}
	}
	return l
}

// tails are what may stand behind a thing that is wrong: what is to stand there, nothing, and other wrong things.
func tails(rest []part) []string {
	l := []string{joined(rest), "", "\x80", "\x02", "\xFF\xFF\xFF\xFF\xFF\xFF\x01", strings.Repeat("\xFF", 20)}
	for i, p := range rest[:min(4, len(rest))] {
		l = append(l, joined(rest[:i])+wrongs(p)[0].s+joined(rest[i+1:]))
	}
	return l
}

// mixed has what a transaction can have, in few parts.
func mixed() api.Txn {
	return api.Txn{Conds: []api.Cond{{Key: "a", Mod: 5}, {Key: "b"}}, Ops: put("a", "x", "b", "-", "cc", "").Ops}
}

// The table of errors: what is wrong, each in its own place, and with another wrong thing behind it.
func TestTxnWrong(t *testing.T) {
	for _, x := range []api.Txn{mixed(), {}, put("a", "-"), {Conds: conds(maxConds), Ops: ops(maxOps)}} {
		l := parts(x)
		for i, p := range l {
			ahead := joined(l[:i])
			for _, x := range wrongs(p) {
				for _, behind := range tails(l[i+1:]) {
					checkWrong(t, ahead+x.s+behind, x.e)
				}
			}
			for _, s := range cuts(p) {
				checkWrong(t, ahead+s, api.ErrShort)
			}
		}
	}
}

// The table of errors: more conditions, and more ops, than may be, all of them there.
func TestTxnCounts(t *testing.T) {
	for i := range maxConds + 4 {
		for j := range maxOps + 4 {
			x := api.Txn{Conds: conds(i), Ops: ops(j)}
			if s := plainTxnBytes(x); i > maxConds || j > maxOps {
				checkWrong(t, s, api.ErrTooLarge)
			} else {
				checkTxn(t, s, x, api.OK)
			}
		}
	}
	x := api.Txn{Conds: conds(2), Ops: ops(3)}
	l := parts(x)
	for n := range uint64(300) { // another number of them than follow
		for _, at := range []int{0, 5} {
			s := joined(l[:at]) + varint(n) + joined(l[at+1:])
			switch {
			case n == l[at].n:
				checkTxn(t, s, x, api.OK)
			case n > l[at].most:
				checkWrong(t, s, api.ErrTooLarge)
			case at == 5 && n < 3: // ops are left
				checkWrong(t, s, api.ErrForm)
			case at == 5:
				checkWrong(t, s, api.ErrShort)
			default: // a key's length is taken for how many ops there are, or how many ops there are for a key's length
				_, e := plainTxn(s)
				if checkWrong(t, s, e); e == api.OK {
					t.Errorf("%x is read", s)
				}
			}
		}
	}
}

// P13.1: a varint may have more bytes than it must, up to 10.
func TestTxnWide(t *testing.T) {
	for _, x := range []api.Txn{mixed(), {}, {Conds: []api.Cond{{Key: "a", Mod: maxRev}}, Ops: put("b", strings.Repeat("v", maxVal)).Ops}} {
		l := parts(x)
		for i, p := range l {
			if p.kind == 'b' {
				continue
			}
			n := p.n
			if p.kind == 't' {
				n = uint64(len(p.text))
			}
			for count := len(varint(n)); count <= 10; count++ {
				checkTxn(t, joined(l[:i])+wide(n, count)+p.text+joined(l[i+1:]), x, api.OK)
			}
		}
	}
}

// The table of errors: what is read, and may not be, is told behind all that can't be read.
func TestTxnMayNot(t *testing.T) {
	wrong := []api.Txn{put("a", "x", "a", "x"), put("a", "-", "a", "-"), put("a", "x", "b", "y", "a", "-"), put("", "x"), put("b", "x", "", "-")}
	for _, key := range noKeys {
		x := mixed()
		x.Conds[0].Key = key
		y := mixed()
		y.Ops[0].Key = key
		z := mixed()
		z.Ops[1].Key = key
		wrong = append(wrong, x, y, z, api.Txn{Conds: []api.Cond{{Key: key}}})
	}
	for _, x := range wrong {
		s := plainTxnBytes(x)
		checkWrong(t, s, api.ErrForm)
		checkWrong(t, s+"\x00", api.ErrForm)
		for cut := range s {
			checkWrong(t, s[:cut], api.ErrShort)
		}
		l := parts(x)
		last := l[len(l)-1]
		for _, x := range wrongs(last) {
			checkWrong(t, joined(l[:len(l)-1])+x.s, x.e)
		}
	}
}

// The table of errors: any bytes, held against the plain reader.
func TestTxnAny(t *testing.T) {
	r := newRow()
	var counts [64]int
	for round := range 60000 {
		s := bent(r, plainTxnBytes(r.any()), round)
		x, e := plainTxn(s)
		checkTxn(t, s, x, e)
		counts[e]++
	}
	for _, e := range []api.Errno{api.OK, api.ErrForm, api.ErrShort, api.ErrTooLarge} {
		if counts[e] < 1000 {
			t.Errorf("error %d: only %d times", e, counts[e])
		}
	}
}

// bent are bytes, mostly with something in them that is another thing.
func bent(r *row, s string, round int) string {
	at := r.below(len(s) + 1)
	switch round % 8 {
	case 0:
		return r.text(24)
	case 1:
		return s[:at]
	case 2:
		return s[:at] + string([]byte{byte(r.below(10))}) + s[min(at+1, len(s)):]
	case 3:
		return s[:at] + r.text(3) + s[at:]
	case 4:
		return s[:at] + s[min(at+r.below(4), len(s)):]
	case 5:
		return s[:at] + string([]byte{byte(r.next())}) + s[min(at+1, len(s)):]
	}
	return s
}
