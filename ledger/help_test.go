package ledger_test

import (
	"encoding/binary"
	"fmt"
	"hash/crc32"
	"regexp"
	"slices"
	"strings"
	"testing"

	"baton/api"
	"baton/ledger"
	"baton/tree"
)

// row is a fixed row of numbers without a plain rule.
type row uint64

func newRow() *row {
	r := row(88172645463325252)
	return &r
}

func (r *row) next() uint64 {
	*r ^= *r << 13
	*r ^= *r >> 7
	*r ^= *r << 17
	return uint64(*r)
}

// below is a number from 0 on, below end.
func (r *row) below(end int) int { return int(r.next() >> 33 % uint64(end)) }

// odds tells yes once in so many times.
func (r *row) odds(many int) bool { return r.below(many) == 0 }

func (r *row) of(l []string) string { return l[r.below(len(l))] }

// text is of any bytes.
func (r *row) text(most int) string {
	b := make([]byte, r.below(most+1))
	for i := range b {
		b[i] = byte(r.next())
	}
	return string(b)
}

// val is a value, seldom of as many bytes as there may be.
func (r *row) val() string {
	if r.odds(20) {
		return strings.Repeat("\xFE", maxVal)
	}
	return r.text(4)
}

// number is one from least to most, of any count of bits, the ends often.
func (r *row) number(least, most int64) int64 {
	switch r.below(6) {
	case 0:
		return least
	case 1:
		return most
	}
	return least + int64((r.next()>>(r.below(63)))%uint64(most-least+1))
}

// The limits, written out once more, so that the package is not held against itself.
const (
	maxKey   = 64
	maxVal   = 128
	maxConds = 8
	maxOps   = 8
	maxRev   = 1099511627776
	maxCount = 1<<32 - 1
)

var plainKey = regexp.MustCompile(`^[-a-zA-Z0-9_./]{1,64}$`)

// some are keys of which many begin by others, rising.
var some = slices.Sorted(slices.Values([]string{
	"a", "a-", "a.", "a/", "a/b", "a/b/c", "a0", "aA", "a_", "aa", "ab", "az", "b", "b/a", "-", "/", "A", "Z", "_", "z", "c/t/c", "c/t/d", "t/t",
	strings.Repeat("a", maxKey), strings.Repeat("z", maxKey), strings.Repeat("a", maxKey-1),
}))

// noKeys are texts that are none, but of no more bytes than a key may have.
var noKeys = []string{"", " ", "a b", "a\x00", "\x00", "\xFF", "é", "a:b", "a\n", "@", strings.Repeat("a", maxKey-1) + "*"}

// Transactions and trees, written and read without the package.

func plainMay(x api.Txn) bool {
	ok := len(x.Conds) <= maxConds && len(x.Ops) <= maxOps
	for _, c := range x.Conds {
		ok = ok && plainKey.MatchString(c.Key) && c.Mod >= 0 && c.Mod <= maxRev
	}
	count := map[string]int{}
	for _, op := range x.Ops {
		count[op.Key]++
		ok = ok && plainKey.MatchString(op.Key) && count[op.Key] == 1 && len(op.Val) <= maxVal && (op.Val == "" || !op.Del)
	}
	return ok
}

func plainMayEntries(l []api.Entry, rev int64) bool {
	ok := rev >= 0 && rev <= maxRev
	for i, x := range l {
		ok = ok && plainKey.MatchString(x.Key) && len(x.Val) <= maxVal && 1 <= x.Made && x.Made <= x.Mod && x.Mod <= rev
		ok = ok && (i == 0 || l[i-1].Key < x.Key)
	}
	return ok
}

// part is a thing that stands in bytes: a number, a text, or a byte ('n', 't', 'b'), and the most that it, or its length, may be.
type part struct {
	kind byte
	most uint64
	n    uint64 // a number, a byte
	text string
}

func number(n int64, most uint64) part { return part{kind: 'n', most: most, n: uint64(n)} }
func text(s string, most uint64) part  { return part{kind: 't', most: most, text: s} }
func whether(is bool) part {
	p := part{kind: 'b', most: 1}
	if is {
		p.n = 1
	}
	return p
}

func (p part) String() string {
	switch p.kind {
	case 'n':
		return varint(p.n)
	case 't':
		return varint(uint64(len(p.text))) + p.text
	}
	return string([]byte{byte(p.n)})
}

// joined are the bytes of parts.
func joined(l []part) string {
	var b strings.Builder
	for _, p := range l {
		b.WriteString(p.String())
	}
	return b.String()
}

// parts are what stands in a transaction's bytes, also of one that may not be.
func parts(x api.Txn) []part {
	l := []part{number(int64(len(x.Conds)), maxConds)}
	for _, c := range x.Conds {
		l = append(l, text(c.Key, maxKey), number(c.Mod, maxRev))
	}
	l = append(l, number(int64(len(x.Ops)), maxOps))
	for _, op := range x.Ops {
		l = append(l, whether(op.Del), text(op.Key, maxKey))
		if !op.Del {
			l = append(l, text(op.Val, maxVal))
		}
	}
	return l
}

// treeParts are what stands in a tree's bytes ahead of its checksum, also of one that may not be.
func treeParts(entries []api.Entry, rev int64) []part {
	l := []part{number(rev, maxRev), number(int64(len(entries)), maxCount)}
	for _, x := range entries {
		l = append(l, text(x.Key, maxKey), text(x.Val, maxVal), number(x.Made, maxRev), number(x.Mod, maxRev))
	}
	return l
}

func plainTxnBytes(x api.Txn) string { return joined(parts(x)) }

func plainTreeBytes(entries []api.Entry, rev int64) string {
	return sealed(joined(treeParts(entries, rev)))
}

// varint is a number as bytes.
func varint(n uint64) string { return string(binary.AppendUvarint(nil, n)) }

// wide is a number in so many bytes.
func wide(n uint64, count int) string {
	b := make([]byte, count)
	for i := range b {
		b[i] = byte(n)&0x7F | 0x80
		n >>= 7
	}
	b[count-1] &= 0x7F
	return string(b)
}

var castagnoli = crc32.MakeTable(crc32.Castagnoli)

// masked is the masked checksum of a text, as 4 bytes.
func masked(s string) string {
	c := crc32.Checksum([]byte(s), castagnoli)
	return string(binary.LittleEndian.AppendUint32(nil, c>>15+c<<17+0xA282EAD8))
}

// sealed is a text and its masked checksum.
func sealed(s string) string { return s + masked(s) }

// rest is what is not read yet; what is wrong is thrown.
type rest string

// caught runs a reading, and tells the error that it throws.
func caught(read func()) (e api.Errno) {
	defer func() {
		if x := recover(); x != nil {
			e = x.(api.Errno)
		}
	}()
	read()
	return api.OK
}

func (s *rest) byte() byte {
	if *s == "" {
		panic(api.ErrShort)
	}
	b := (*s)[0]
	*s = (*s)[1:]
	return b
}

func (s *rest) number(most uint64) uint64 {
	n := uint64(0)
	for i := range 10 {
		b := s.byte()
		if i == 9 && b > 1 {
			panic(api.ErrForm)
		}
		n |= uint64(b&0x7F) << (7 * i)
		if b < 0x80 {
			break
		}
	}
	if n > most {
		panic(api.ErrTooLarge)
	}
	return n
}

func (s *rest) text(most uint64) string {
	n := int(s.number(most))
	if n > len(*s) {
		panic(api.ErrShort)
	}
	piece := string(*s)[:n]
	*s = (*s)[n:]
	return piece
}

// end throws what is wrong at last.
func (s *rest) end(may bool) {
	if *s != "" || !may {
		panic(api.ErrForm)
	}
}

// plainTxn is what Txn is to answer.
func plainTxn(s string) (api.Txn, api.Errno) {
	var x api.Txn
	e := caught(func() {
		r := rest(s)
		for range r.number(maxConds) {
			key := r.text(maxKey)
			x.Conds = append(x.Conds, api.Cond{Key: key, Mod: int64(r.number(maxRev))})
		}
		for range r.number(maxOps) {
			switch b := r.byte(); b {
			case 0:
				key := r.text(maxKey)
				x.Ops = append(x.Ops, api.Op{Key: key, Val: r.text(maxVal)})
			case 1:
				x.Ops = append(x.Ops, api.Op{Del: true, Key: r.text(maxKey)})
			default:
				panic(api.ErrForm)
			}
		}
		r.end(plainMay(x))
	})
	if e != api.OK {
		return api.Txn{}, e
	}
	return x, api.OK
}

// plainTree is what Tree is to answer: the entries, and the revision.
func plainTree(s string) (l []api.Entry, rev int64, e api.Errno) {
	if len(s) < 4 {
		return nil, 0, api.ErrShort
	}
	ahead := s[:len(s)-4]
	if sealed(ahead) != s {
		return nil, 0, api.ErrSum
	}
	e = caught(func() {
		r := rest(ahead)
		rev = int64(r.number(maxRev))
		for range r.number(maxCount) {
			var x api.Entry
			x.Key = r.text(maxKey)
			x.Val = r.text(maxVal)
			x.Made = int64(r.number(maxRev))
			x.Mod = int64(r.number(maxRev))
			l = append(l, x)
		}
		r.end(plainMayEntries(l, rev))
	})
	if e != api.OK {
		return nil, 0, e
	}
	return l, rev, api.OK
}

// What the package answers, held against what it should.

// shown is anything as a text that is not too long for a message.
func shown(x any) string { return fmt.Sprintf("%.300s", fmt.Sprintf("%+v", x)) }

// equal is whether two transactions are the same, but for lists of nothing.
func equal(a, b api.Txn) bool { return slices.Equal(a.Conds, b.Conds) && slices.Equal(a.Ops, b.Ops) }

// clone is a transaction that shares nothing with x.
func clone(x api.Txn) api.Txn {
	return api.Txn{Conds: slices.Clone(x.Conds), Ops: slices.Clone(x.Ops)}
}

func checkPutTxn(t *testing.T, x api.Txn, want string, wantE api.Errno) {
	t.Helper()
	before := clone(x)
	if s, e := ledger.PutTxn(x); s != want || e != wantE {
		t.Errorf("PutTxn(%s) = %.300x, %d; want %.300x, %d", shown(x), s, e, want, wantE)
	}
	if !equal(before, x) {
		t.Errorf("PutTxn(%s) changed it: %s", shown(before), shown(x))
	}
}

// checkMay: a transaction is put, and read again, or refused, as it may be or not.
func checkMay(t *testing.T, x api.Txn, want bool) {
	t.Helper()
	if plainMay(x) != want {
		t.Errorf("%s: may be %t", shown(x), !want)
	}
	if !want {
		checkPutTxn(t, x, "", api.ErrForm)
		return
	}
	checkPutTxn(t, x, plainTxnBytes(x), api.OK)
	checkTxn(t, plainTxnBytes(x), x, api.OK)
}

func checkTxn(t *testing.T, s string, want api.Txn, wantE api.Errno) {
	t.Helper()
	if x, e := ledger.Txn(s); !equal(x, want) || e != wantE {
		t.Errorf("Txn(%.300x) = %s, %d; want %s, %d", s, shown(x), e, shown(want), wantE)
	}
}

// checkWrong: beside the error there is nothing.
func checkWrong(t *testing.T, s string, e api.Errno) {
	t.Helper()
	if _, plain := plainTxn(s); plain != e {
		t.Errorf("%.300x: %d is asked for; read plainly %d", s, e, plain)
	}
	checkTxn(t, s, api.Txn{}, e)
}

func checkPutTree(t *testing.T, x *tree.Tree, want string) {
	t.Helper()
	before := x.Copy()
	if s, e := ledger.PutTree(x); s != want || e != api.OK {
		t.Errorf("PutTree(%s) = %.300x, %d; want %.300x", told(x), s, e, want)
	}
	if !tree.Same(before, x) {
		t.Errorf("PutTree(%s) changed it: %s", told(before), told(x))
	}
}

// checkTree: what is read has these entries, and that revision, which is its Low, and knows nothing of what happened.
func checkTree(t *testing.T, s string, entries []api.Entry, rev int64) {
	t.Helper()
	x, e := ledger.Tree(s)
	if x == nil || e != api.OK {
		t.Errorf("Tree(%.300x) = %v, %d", s, x != nil, e)
		return
	}
	if !slices.Equal(x.List(""), entries) || x.Len() != len(entries) || x.Rev() != rev || x.Low() != rev {
		t.Errorf("Tree(%.300x) = %s; want %s, %d", s, told(x), shown(entries), rev)
	}
	if _, e := x.Since("", rev); rev > 0 && e != api.ErrGone {
		t.Errorf("Since(%d) of what is read: %d", rev, e)
	}
	if l, e := x.Since("", rev+1); len(l) > 0 || e != api.OK {
		t.Errorf("Since(%d) of what is read: %s, %d", rev+1, shown(l), e)
	}
}

// checkNoTree: beside the error there is nobody.
func checkNoTree(t *testing.T, s string, want api.Errno) {
	t.Helper()
	if _, _, plain := plainTree(s); plain != want {
		t.Errorf("%.300x: %d is asked for; read plainly %d", s, want, plain)
	}
	if x, e := ledger.Tree(s); x != nil || e != want {
		t.Errorf("Tree(%.300x) = %v, %d; want %d", s, x != nil, e, want)
	}
}

// told is what a tree has.
func told(x *tree.Tree) string {
	return fmt.Sprintf("%s, Rev %d, Low %d", shown(x.List("")), x.Rev(), x.Low())
}

// Transactions, entries, and trees.

// conds are so many conditions, of unlike keys.
func conds(count int) []api.Cond {
	var l []api.Cond
	for i := range count {
		l = append(l, api.Cond{Key: fmt.Sprintf("cond/%d", i), Mod: int64(i) * 100})
	}
	return l
}

// ops are so many, each third one a delete.
func ops(count int) []api.Op {
	var l []api.Op
	for i := range count {
		op := api.Op{Del: i%3 == 2, Key: fmt.Sprintf("op/%d", i)}
		if !op.Del {
			op.Val = strings.Repeat("v", 3*i)
		}
		l = append(l, op)
	}
	return l
}

// right are transactions that may be, at the ends.
func right() []api.Txn {
	key, val := strings.Repeat("k", maxKey), strings.Repeat("\xFF", maxVal)
	l := []api.Txn{
		{Conds: []api.Cond{{Key: "a", Mod: maxRev}, {Key: "a"}, {Key: key, Mod: maxRev - 1}}},
		{Ops: []api.Op{{Key: "a"}, {Key: key, Val: val}, {Del: true, Key: "b"}, {Del: true, Key: key[1:]}}},
		{Conds: []api.Cond{{Key: "t/acme"}, {Key: "c/acme/a", Mod: 300}}, Ops: []api.Op{{Key: "t/acme", Val: "one"}, {Del: true, Key: "c/acme/a"}}},
	}
	for _, i := range []int{0, 1, 2, maxConds} {
		for _, j := range []int{0, 1, 2, 3, maxOps} {
			l = append(l, api.Txn{Conds: conds(i), Ops: ops(j)})
		}
	}
	full := api.Txn{}
	for i := range maxConds {
		end := string([]byte{'a' + byte(i)})
		full.Conds = append(full.Conds, api.Cond{Key: key[1:] + end, Mod: maxRev - int64(i)})
		full.Ops = append(full.Ops, api.Op{Key: key[1:] + end, Val: val})
	}
	return append(l, full)
}

// txn is any that may be, of keys out of l, whose conditions mostly hold of a tree.
func (r *row) txn(x *tree.Tree, l []string) api.Txn {
	var txn api.Txn
	for range r.below(maxConds+1) * r.below(2) {
		key := r.of(l)
		y, _ := x.Get(key)
		txn.Conds = append(txn.Conds, api.Cond{Key: key, Mod: y.Mod})
	}
	if len(txn.Conds) > 0 && r.odds(4) {
		txn.Conds[r.below(len(txn.Conds))].Mod = r.number(0, maxRev)
	}
	for range r.below(maxOps + 1) {
		op := api.Op{Del: r.odds(3), Key: r.of(l)}
		if !op.Del {
			op.Val = r.val()
		}
		if !slices.ContainsFunc(txn.Ops, func(other api.Op) bool { return other.Key == op.Key }) {
			txn.Ops = append(txn.Ops, op)
		}
	}
	return txn
}

// any is a transaction that may be, or one in which something is another thing.
func (r *row) any() api.Txn {
	x := r.txn(nil, some)
	switch r.below(12) {
	case 0:
		x.Conds = append(x.Conds, api.Cond{Key: r.of(noKeys)})
	case 1:
		x.Ops = append(x.Ops, api.Op{Del: r.odds(2), Key: r.of(noKeys)})
	case 2:
		x.Conds = append(x.Conds, api.Cond{Key: "a", Mod: r.number(-2, maxRev+2)})
	case 3:
		x.Ops = append(x.Ops, x.Ops...)
	case 4:
		x.Conds = append(x.Conds, x.Conds...)
	case 5:
		x.Ops = append(x.Ops, api.Op{Del: r.odds(2), Key: "zzz", Val: strings.Repeat("v", r.below(maxVal+3))})
	case 6:
		x.Ops = append(x.Ops, api.Op{Key: strings.Repeat("q", maxKey+r.below(3))})
	}
	return x
}

// entries are any that may be of a revision, of keys out of some.
func (r *row) entries(rev int64) []api.Entry {
	var l []api.Entry
	if rev == 0 {
		return nil
	}
	for _, key := range some {
		if r.odds(3) {
			mod := r.number(1, rev)
			l = append(l, api.Entry{Key: key, Val: r.val(), Made: r.number(1, mod), Mod: mod})
		}
	}
	return l
}

// made is what tree.Of tells of entries that may be.
func made(t *testing.T, rev int64, l ...api.Entry) *tree.Tree {
	t.Helper()
	x, e := tree.Of(l, rev)
	if x == nil || e != api.OK {
		t.Fatalf("Of(%s, %d): %d", shown(l), rev, e)
	}
	return x
}

// put is the transaction that puts keys, one the other in turn its value; a value of - is a delete.
func put(l ...string) api.Txn {
	var x api.Txn
	for i := 0; i < len(l); i += 2 {
		op := api.Op{Key: l[i], Val: l[i+1]}
		if op.Val == "-" {
			op = api.Op{Del: true, Key: l[i]}
		}
		x.Ops = append(x.Ops, op)
	}
	return x
}

// built is the tree to which these transactions were done.
func built(t *testing.T, l ...api.Txn) *tree.Tree {
	t.Helper()
	x := tree.New()
	for _, one := range l {
		if _, done, e := x.Do(one); !done || e != api.OK {
			t.Fatalf("Do(%s) = %t, %d", shown(one), done, e)
		}
	}
	return x
}

// state is a tree's entries, and its revision.
type state struct {
	l   []api.Entry
	rev int64
}

func (s state) bytes() string { return plainTreeBytes(s.l, s.rev) }

// states are some that may be, at the ends.
func states() []state {
	key, val := strings.Repeat("k", maxKey), strings.Repeat("\xFF", maxVal)
	var many []api.Entry
	for i := range 300 {
		many = append(many, api.Entry{Key: fmt.Sprintf("key/%03d", i), Val: strings.Repeat("v", i%5), Made: 1 + int64(i), Mod: 300})
	}
	return []state{
		{nil, 0}, {nil, 1}, {nil, 127}, {nil, 128}, {nil, maxRev},
		{[]api.Entry{{Key: "a", Made: 1, Mod: 1}}, 1},
		{[]api.Entry{{Key: "a", Val: "x", Made: 1, Mod: 2}}, 2},
		{[]api.Entry{{Key: key, Val: val, Made: maxRev, Mod: maxRev}}, maxRev},
		{[]api.Entry{{Key: "-", Val: val, Made: 1, Mod: maxRev - 1}, {Key: "a", Made: 200, Mod: 300}, {Key: "a/", Val: "\x00", Made: 1, Mod: 1}, {Key: key, Made: 7, Mod: 128}}, maxRev},
		{many, 300},
	}
}
