package request_test

import (
	"iter"
	"strings"
	"testing"

	"baton/api"
	"baton/request"
)

// some are requests that are right, and that are wrong at the begin, in the midst, at the end, and as a whole, of series that
// are all unlike.
func some() []string {
	var l []string
	const count = 5
	wrongs := []string{"\x0A\x01\x0B", "\x0A\x02\x08\x01", "\x0A\x03\x0A\x01\x0A", "\x0A\x04\x0A\x02\x08\x01", "\x0A\x04\x12\x02\x0A\x00", "\x0A\x03\x12\x01\x09"}
	for n := range count + 1 {
		l = append(l, numbered(0, n))
		for _, w := range wrongs {
			l = append(l, numbered(0, n)+w, numbered(0, n)+w+numbered(n, count), numbered(0, n)+w+w+numbered(n, count)+w)
		}
		l = append(l, numbered(0, n)+"\x08\x01", "\x08\x01"+numbered(0, n), numbered(0, n)+"\x0A", numbered(0, n)+"\x03"+numbered(n, count))
	}
	return l
}

// numbered are series from a number on, below end.
func numbered(from, end int) string {
	s := ""
	for i := from; i < end; i++ {
		s += text(1, plainSeries(both(ofLabels(label("n", strings.Repeat("x", i))), sample(int64(i), uint64(i)))))
	}
	return s
}

// pair is what Each tells at a time.
type pair struct {
	x api.Series
	e api.Errno
}

// pairs are what Each is to tell.
func pairs(s string) []pair {
	ahead, e := plainRead(s)
	var l []pair
	for _, x := range ahead {
		l = append(l, pair{x, api.OK})
	}
	if e != api.OK {
		l = append(l, pair{e: e})
	}
	return l
}

func checkPairs(t *testing.T, s string, got, want []pair) {
	t.Helper()
	ok := len(got) == len(want)
	for i := 0; ok && i < len(got); i++ {
		ok = got[i].e == want[i].e && equal(list(got[i].x), list(want[i].x))
	}
	if !ok {
		t.Errorf("Each(%s) tells %v; want %v", bytesOf(s), got, want)
	}
}

// gone goes over what is told one by one, as far as most.
func gone(seq iter.Seq2[api.Series, api.Errno], most int) []pair {
	var l []pair
	for x, e := range seq {
		l = append(l, pair{x, e})
		if len(l) == most {
			break
		}
	}
	return l
}

// P6.2, P6.7: all that are ahead of the one that is wrong, and then the error; as Decode tells them.
func TestEach(t *testing.T) {
	for _, s := range some() {
		want := pairs(s)
		checkPairs(t, s, gone(request.Each(s), -1), want)
		checkPlain(t, s)
		l, e := request.Decode(s)
		for i, p := range gone(request.Each(s), -1) {
			switch {
			case p.e != api.OK:
				if p.e != e || i != len(want)-1 || p.x.Labels != nil || p.x.Samples != nil {
					t.Errorf("Each(%s) tells %v at %d; Decode %d", bytesOf(s), p, i, e)
				}
			case e == api.OK && !equal(list(p.x), l[i:i+1]):
				t.Errorf("Each(%s) tells %v at %d; Decode %s", bytesOf(s), p, i, tell(l[i:i+1]))
			}
		}
	}
}

// P6.2: a request that is wrong itself tells that alone, also behind series that are right.
func TestEachWhole(t *testing.T) {
	for s, e := range map[string]api.Errno{
		numbered(0, 3) + "\x08\x01": api.ErrForm, "\x08\x01" + numbered(0, 3): api.ErrForm, numbered(0, 3) + "\x0A": api.ErrShort, numbered(0, 3) + "\x0A\x01": api.ErrShort,
		numbered(0, 3) + "\x03": api.ErrForm, numbered(0, 3) + "\x00": api.ErrForm, "\x0D\x00\x00\x00\x00": api.ErrForm, "\x80": api.ErrShort,
	} {
		checkPairs(t, s, gone(request.Each(s), -1), []pair{{e: e}})
	}
	checkPairs(t, "", gone(request.Each(""), -1), nil)
	checkPairs(t, "\x10\x01", gone(request.Each("\x10\x01"), -1), nil)
}

// P6.2: it may be left at any time: behind that nothing is told (what goes on telling would panic here).
func TestEachLeft(t *testing.T) {
	for _, s := range some() {
		want := pairs(s)
		for most := 1; most <= len(want)+1; most++ {
			checkPairs(t, s, gone(request.Each(s), most), want[:min(most, len(want))])
			calls := 0
			request.Each(s)(func(api.Series, api.Errno) bool {
				calls++
				return calls < most
			})
			if calls != min(most, len(want)) {
				t.Errorf("Each(%s), left at %d, tells %d", bytesOf(s), most, calls)
			}
		}
	}
}

// P6.2: an iterator is gone over again as at first, wherever it was left, and whatever became of what it told.
func TestEachAgain(t *testing.T) {
	for _, s := range some() {
		want := pairs(s)
		seq := request.Each(s)
		for most := -1; most <= len(want); most++ {
			if most == 0 {
				continue
			}
			got := gone(seq, most)
			if most < 0 {
				checkPairs(t, s, got, want)
			} else {
				checkPairs(t, s, got, want[:most])
			}
			for _, p := range got { // what it tells is whose it was told to
				for i := range p.x.Labels {
					p.x.Labels[i] = label("x", "y")
				}
				for i := range p.x.Samples {
					p.x.Samples[i] = sample(-5, 5)
				}
			}
			checkPairs(t, s, gone(seq, -1), want)
		}
	}
}

// P6.2: two that are gone over side by side, of one iterator, and of two, do not heed each other.
func TestEachSideBySide(t *testing.T) {
	all := some()
	for i, a := range all {
		b := all[(i*7+3)%len(all)]
		seqA := request.Each(a)
		for _, c := range []struct {
			s   string
			seq iter.Seq2[api.Series, api.Errno]
		}{{a, seqA}, {a, request.Each(a)}, {b, request.Each(b)}} {
			var gotA, gotC []pair
			next, stop := iter.Pull2(c.seq)
			for x, e := range seqA {
				gotA = append(gotA, pair{x, e})
				if y, e, ok := next(); ok {
					gotC = append(gotC, pair{y, e})
				}
			}
			for y, e, ok := next(); ok; y, e, ok = next() {
				gotC = append(gotC, pair{y, e})
			}
			stop()
			checkPairs(t, a, gotA, pairs(a))
			checkPairs(t, c.s, gotC, pairs(c.s))
		}
	}
}

// P6.2: one within the other.
func TestEachNested(t *testing.T) {
	s := numbered(0, 4) + "\x0A\x02\x08\x01"
	seq := request.Each(s)
	outer := 0
	for range seq {
		outer++
		checkPairs(t, s, gone(seq, outer), pairs(s)[:outer])
	}
	if outer != 5 {
		t.Errorf("%d were told", outer)
	}
}
