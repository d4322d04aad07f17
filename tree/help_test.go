package tree_test

import (
	"fmt"
	"maps"
	"regexp"
	"slices"
	"strings"
	"testing"

	"baton/api"
	"baton/tree"
)

// row is a fixed row of numbers without a plain rule.
type row uint64

func newRow() *row {
	r := row(88172645463325252)
	return &r
}

func (r *row) next() uint64 {
	*r ^= *r << 13
	*r ^= *r >> 7
	*r ^= *r << 17
	return uint64(*r)
}

// below is a number from 0 on, below end.
func (r *row) below(end int) int { return int(r.next() >> 33 % uint64(end)) }

// odds tells yes once in so many times.
func (r *row) odds(many int) bool { return r.below(many) == 0 }

func (r *row) of(l []string) string { return l[r.below(len(l))] }

// val is a value of any bytes, seldom of as many as there may be.
func (r *row) val() string {
	n := r.below(4)
	if r.odds(20) {
		n = maxVal
	}
	b := make([]byte, n)
	for i := range b {
		b[i] = byte(r.next())
	}
	return string(b)
}

// The limits, written out once more, so that the package is not held against itself.
const (
	maxKey   = 64
	maxVal   = 128
	maxConds = 8
	maxOps   = 8
	maxRev   = 1099511627776
)

var plainPrefix = regexp.MustCompile(`^[-a-zA-Z0-9_./]{0,64}$`)

// some are keys of which many begin by others, and such as stand beside these.
var some = []string{
	"a", "a-", "a.", "a/", "a/-", "a/a", "a/b", "a/b/c", "a0", "aA", "a_", "aa", "aaa", "ab", "az", "b", "b/a", "-", "/", "//", "A", "Z", "_", "z", "zz", "c/t/c", "c/t/d", "c/t-/c",
	strings.Repeat("a", maxKey), strings.Repeat("z", maxKey), strings.Repeat("a", maxKey-1),
}

// noKeys are texts that are none.
var noKeys = []string{"", strings.Repeat("a", maxKey+1), strings.Repeat("a", 1<<20), " ", "a b", "a\x00", "\x00", "\xFF", "é", "a:b", "a\n", "\\", "*", "a@", "[", "`", "{", "+", ","}

// plain is a tree kept in the plainest way.
type plain struct {
	entries  map[string]api.Entry
	events   []api.Event
	rev, low int64
}

func newPlain() *plain { return &plain{entries: map[string]api.Entry{}} }

func plainOf(l []api.Entry, rev int64) *plain {
	p := &plain{entries: map[string]api.Entry{}, rev: rev, low: rev}
	for _, x := range l {
		p.entries[x.Key] = x
	}
	return p
}

func (p *plain) copy() *plain {
	return &plain{maps.Clone(p.entries), slices.Clone(p.events), p.rev, p.low}
}

func (p *plain) list(prefix string) []api.Entry {
	var l []api.Entry
	for _, key := range slices.Sorted(maps.Keys(p.entries)) {
		if strings.HasPrefix(key, prefix) {
			l = append(l, p.entries[key])
		}
	}
	return l
}

func (p *plain) holds(l []api.Cond) bool {
	for _, c := range l {
		if x, is := p.entries[c.Key]; is && x.Mod != c.Mod || !is && c.Mod != 0 {
			return false
		}
	}
	return true
}

// do is what Do is to do with a transaction that may be.
func (p *plain) do(x api.Txn) (events []api.Event, done bool) {
	if !p.holds(x.Conds) || len(x.Ops) == 0 {
		return nil, p.holds(x.Conds)
	}
	p.rev++
	for _, op := range x.Ops {
		old, is := p.entries[op.Key]
		if op.Del && is {
			events = append(events, api.Event{Rev: p.rev, Del: true, Key: op.Key})
			delete(p.entries, op.Key)
		}
		if op.Del {
			continue
		}
		events = append(events, api.Event{Rev: p.rev, Key: op.Key, Val: op.Val})
		made := p.rev
		if is {
			made = old.Made
		}
		p.entries[op.Key] = api.Entry{Key: op.Key, Val: op.Val, Made: made, Mod: p.rev}
	}
	p.events = append(p.events, events...)
	return events, true
}

func (p *plain) since(prefix string, from int64) ([]api.Event, api.Errno) {
	if !plainPrefix.MatchString(prefix) {
		return nil, api.ErrForm
	}
	if from < 1 || from > p.rev+1 {
		return nil, api.ErrArg
	}
	if from <= p.low {
		return nil, api.ErrGone
	}
	return p.told(prefix, from), api.OK
}

func (p *plain) told(prefix string, from int64) []api.Event {
	var l []api.Event
	for _, x := range p.events {
		if x.Rev >= from && strings.HasPrefix(x.Key, prefix) {
			l = append(l, x)
		}
	}
	return l
}

func (p *plain) cut(rev int64) {
	if rev > p.low {
		p.events, p.low = p.told("", rev+1), rev
	}
}

// asIs are conditions of these keys, as they are.
func (p *plain) asIs(l ...string) []api.Cond {
	var conds []api.Cond
	for _, key := range l {
		conds = append(conds, api.Cond{Key: key, Mod: p.entries[key].Mod})
	}
	return conds
}

// ops are some, of keys out of l, no two of one key.
func (r *row) ops(l []string) []api.Op {
	seen := map[string]int{}
	var ops []api.Op
	for range r.below(maxOps + 1) {
		key := r.of(l)
		if seen[key]++; seen[key] > 1 {
			continue
		}
		if r.odds(3) {
			ops = append(ops, api.Op{Del: true, Key: key})
		} else {
			ops = append(ops, api.Op{Key: key, Val: r.val()})
		}
	}
	return ops
}

// txn is one of keys out of l, whose conditions mostly hold.
func (r *row) txn(p *plain, l []string) api.Txn {
	var names []string
	for range r.below(maxConds+1) * r.below(2) {
		names = append(names, r.of(l))
	}
	x := api.Txn{Conds: p.asIs(names...), Ops: r.ops(l)}
	if len(x.Conds) > 0 && r.odds(4) {
		x.Conds[r.below(len(x.Conds))].Mod += int64(r.below(3))
	}
	return x
}

// put is the transaction that puts keys, one the other in turn its value; a value of - is a delete.
func put(l ...string) api.Txn {
	var x api.Txn
	for i := 0; i < len(l); i += 2 {
		op := api.Op{Key: l[i], Val: l[i+1]}
		if op.Val == "-" {
			op = api.Op{Del: true, Key: l[i]}
		}
		x.Ops = append(x.Ops, op)
	}
	return x
}

// given is put under conditions.
func given(l []api.Cond, ops ...string) api.Txn { return api.Txn{Conds: l, Ops: put(ops...).Ops} }

// shown is anything as a text that is not too long for a message.
func shown(x any) string { return fmt.Sprintf("%.300s", fmt.Sprintf("%+v", x)) }

// built is the tree to which these transactions were done.
func built(t *testing.T, l ...api.Txn) *tree.Tree {
	t.Helper()
	x := tree.New()
	for _, one := range l {
		if _, done, e := x.Do(one); !done || e != api.OK {
			t.Fatalf("Do(%s) = %t, %d", shown(one), done, e)
		}
	}
	return x
}

// made is what Of tells of entries that may be.
func made(t *testing.T, rev int64, l ...api.Entry) *tree.Tree {
	t.Helper()
	x, e := tree.Of(l, rev)
	if x == nil || e != api.OK {
		t.Fatalf("Of(%s, %d) = %v, %d", shown(l), rev, x != nil, e)
	}
	return x
}

func checkMay(t *testing.T, x api.Txn, want bool) {
	t.Helper()
	if got := tree.MayTxn(x); got != want {
		t.Errorf("MayTxn(%s) = %t", shown(x), got)
	}
}

// checkDo does what may be to both.
func checkDo(t *testing.T, x *tree.Tree, p *plain, txn api.Txn) bool {
	t.Helper()
	before := api.Txn{Conds: slices.Clone(txn.Conds), Ops: slices.Clone(txn.Ops)}
	events, done, e := x.Do(txn)
	wantEvents, want := p.do(txn)
	if !slices.Equal(events, wantEvents) || done != want || e != api.OK {
		t.Fatalf("Do(%s) = %s, %t, %d; want %s, %t", shown(txn), shown(events), done, e, shown(wantEvents), want)
	}
	if !slices.Equal(before.Conds, txn.Conds) || !slices.Equal(before.Ops, txn.Ops) {
		t.Errorf("Do(%s) changed it: %s", shown(before), shown(txn))
	}
	return done
}

// checkRefused is of a Do that is to change nothing.
func checkRefused(t *testing.T, x *tree.Tree, txn api.Txn, want api.Errno) {
	t.Helper()
	before := x.Copy()
	if events, done, e := x.Do(txn); len(events) != 0 || done || e != want {
		t.Errorf("Do(%s) = %s, %t, %d; want no, %d", shown(txn), shown(events), done, e, want)
	}
	if !tree.Same(before, x) {
		t.Errorf("Do(%s) changed what is there", shown(txn))
	}
}

func checkSince(t *testing.T, x *tree.Tree, prefix string, from int64, want []api.Event, e api.Errno) {
	t.Helper()
	if got, is := x.Since(prefix, from); !slices.Equal(got, want) || is != e {
		t.Errorf("Since(%.80q, %d) = %s, %d; want %s, %d", prefix, from, shown(got), is, shown(want), e)
	}
}

func checkGet(t *testing.T, x *tree.Tree, key string, want api.Entry, is bool) {
	t.Helper()
	if got, ok := x.Get(key); got != want || ok != is {
		t.Errorf("Get(%.80q) = %s, %t; want %s, %t", key, shown(got), ok, shown(want), is)
	}
}

func checkList(t *testing.T, x *tree.Tree, prefix string, want []api.Entry) {
	t.Helper()
	if got := x.List(prefix); !slices.Equal(got, want) {
		t.Errorf("List(%.80q) = %s; want %s", prefix, shown(got), shown(want))
	}
}

func checkNumbers(t *testing.T, x *tree.Tree, count int, rev, low int64) {
	t.Helper()
	if x.Len() != count || x.Rev() != rev || x.Low() != low {
		t.Errorf("Len, Rev, Low = %d, %d, %d; want %d, %d, %d", x.Len(), x.Rev(), x.Low(), count, rev, low)
	}
}

func checkCut(t *testing.T, x *tree.Tree, rev int64, want api.Errno) {
	t.Helper()
	if e := x.Cut(rev); e != want {
		t.Errorf("Cut(%d) = %d; want %d", rev, e, want)
	}
}

func checkSame(t *testing.T, a, b *tree.Tree, want bool) {
	t.Helper()
	if tree.Same(a, b) != want || tree.Same(b, a) != want {
		t.Errorf("Same = %t, and turned %t; want %t", tree.Same(a, b), tree.Same(b, a), want)
	}
}

// checkTree asks for all that a tree tells, keys and prefixes out of l too.
func checkTree(t *testing.T, x *tree.Tree, p *plain, l []string) {
	t.Helper()
	checkNumbers(t, x, len(p.entries), p.rev, p.low)
	for _, key := range append([]string{"", " ", "a b", "c"}, l...) {
		want, is := p.entries[key]
		checkGet(t, x, key, want, is)
		checkList(t, x, key, p.list(key))
	}
	for from := max(p.low-2, -1); from <= p.rev+2; from++ {
		want, e := p.since("", from)
		checkSince(t, x, "", from, want, e)
	}
	for _, prefix := range []string{"a", "a/", "aa", "b", "zz", "q", "c/t/", " ", "a "} {
		for _, from := range []int64{p.low, p.low + 1, (p.low + p.rev) / 2, p.rev, p.rev + 1} {
			want, e := p.since(prefix, from)
			checkSince(t, x, prefix, from, want, e)
		}
	}
}
