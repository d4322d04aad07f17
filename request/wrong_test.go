package request_test

import (
	"slices"
	"strings"
	"testing"

	"baton/api"
	"baton/request"
)

// refused is a piece of a message, and what is wrong with it.
type refused struct {
	s string
	e api.Errno
}

// unread are pieces that are in no message: wire types that are none, numbers that are none, varints that are none.
func unread() []refused {
	nine := strings.Repeat("\xFF", 9)
	var l []refused
	for _, wire := range []uint64{3, 4, 6, 7} {
		for _, num := range []uint64{1, 2, 3, 16, 1<<29 - 1} {
			l = append(l, refused{varint(num*8 + wire), api.ErrForm}, refused{longer(num*8+wire, 10) + "\x00", api.ErrForm})
		}
	}
	for wire := range uint64(8) {
		l = append(l, refused{varint(wire) + strings.Repeat("\x00", 8), api.ErrForm}, refused{longer(wire, 3) + strings.Repeat("\x00", 8), api.ErrForm})
		l = append(l, refused{varint(1<<32 + 8 + wire), api.ErrForm}, refused{varint(1<<63 + 16 + wire), api.ErrForm})
	}
	for _, key := range []string{"", "\x08", "\x10", "\x18", "\x0A", "\x12", "\x1A"} {
		l = append(l, refused{key + nine + "\x02", api.ErrForm}, refused{key + nine + "\xFF", api.ErrForm})
	}
	return l
}

// unended are pieces that have fewer bytes than they say, where nothing is behind them.
func unended() []refused {
	var l []refused
	for _, s := range []string{
		"\x80", strings.Repeat("\xFF", 9), "\x08", "\x08\x80", "\x10", "\x10" + strings.Repeat("\x80", 9), "\x18", "\x09", "\x09\x00\x00\x00\x00\x00\x00\x00", "\x11", "\x11\x00\x00\x00\x00\x00\x00\x00",
		"\x0A", "\x12", "\x1A", "\x0A\x80", "\x12\x80", "\x0A\x01", "\x12\x01", "\x1A\x01", "\x0A\x02a", "\x12\x02a", "\x0D", "\x0D\x00\x00\x00", "\x15", "\x15\x00\x00\x00",
		"\x0A" + varint(1<<63), "\x12" + varint(1<<64-1),
	} {
		l = append(l, refused{s, api.ErrShort})
	}
	return l
}

// untyped are fields of a number, of each wire type but one.
func untyped(num, wire uint64) []refused {
	var l []refused
	for of, fields := range map[uint64][]string{
		0: {number(num, 0), number(num, 1), number(num, 1<<64-1)}, 1: {eight(num, 0), eight(num, 1)}, 2: {text(num, ""), text(num, "\x0A\x01a"), text(num, "\x08")}, 5: {four(num, 0), four(num, 1)},
	} {
		for _, s := range fields {
			if of != wire {
				l = append(l, refused{s, api.ErrForm})
			}
		}
	}
	return l
}

// level is a kind of message: its right fields, what else may be wrong with it but what is wrong with any message, and how
// one stands in a request (behind so many series that are right).
type level struct {
	name   string
	fields []string
	wrong  []refused
	within func(s string) (request string, ahead []api.Series)
}

// levels are a request, a series, a label, a sample.
func levels() []level {
	goodLabel, goodSample := label("a", "b"), sample(2, 1)
	labelText, sampleText := text(1, plainLabel(goodLabel)), text(2, plainSample(goodSample))
	good := both(ofLabels(goodLabel), goodSample)
	goodText := text(1, labelText+sampleText)
	ahead := list(good, api.Series{})
	inSeries := func(s string) (string, []api.Series) {
		return goodText + text(1, "") + text(1, s) + goodText, ahead
	}
	return []level{
		{"request", []string{goodText, text(1, ""), number(2, 7), goodText}, untyped(1, 2), func(s string) (string, []api.Series) { return s, nil }},
		{"series", []string{labelText, sampleText, number(3, 7), labelText, sampleText}, append(untyped(1, 2), untyped(2, 2)...), inSeries},
		{"label", []string{text(1, "a"), text(2, "b"), number(3, 7), text(1, "")}, append(untyped(1, 2), untyped(2, 2)...), func(s string) (string, []api.Series) {
			return inSeries(sampleText + labelText + text(1, "") + text(1, s) + labelText)
		}},
		{"sample", []string{eight(1, 1), number(2, 2), number(3, 7), eight(1, 0)}, append(untyped(1, 1), untyped(2, 0)...), func(s string) (string, []api.Series) {
			return inSeries(sampleText + labelText + text(2, "") + text(2, s) + sampleText)
		}},
	}
}

// The table of errors: what may not be in a request, a series, a label, a sample, wherever in it that stands.
func TestWrong(t *testing.T) {
	for _, l := range levels() {
		s, _ := l.within(strings.Join(l.fields, ""))
		if e := checkPlain(t, s); e != api.OK {
			t.Fatalf("%s: %d", l.name, e)
		}
		for _, w := range append(l.wrong, unread()...) {
			for at := range len(l.fields) + 1 {
				s, ahead := l.within(strings.Join(slices.Insert(slices.Clone(l.fields), at, w.s), ""))
				checkRead(t, s, ahead, w.e)
			}
			s, ahead := l.within(w.s)
			checkRead(t, s, ahead, w.e)
		}
	}
}

// The table of errors: what has fewer bytes than it says, at the end.
func TestUnended(t *testing.T) {
	for _, l := range levels() {
		for _, w := range unended() {
			for at := range len(l.fields) + 1 {
				s, ahead := l.within(strings.Join(l.fields[:at], "") + w.s)
				checkRead(t, s, ahead, w.e)
			}
		}
	}
}

// What is wrong with a message itself counts ahead of a field that is of another wire type than it must be, wherever that is.
func TestReadFirst(t *testing.T) {
	for _, l := range levels() {
		for _, own := range l.wrong {
			for _, w := range unended() {
				s, ahead := l.within(own.s + w.s)
				checkRead(t, s, ahead, api.ErrShort)
				s, ahead = l.within(own.s + l.fields[0] + own.s + w.s)
				checkRead(t, s, ahead, api.ErrShort)
			}
		}
	}
}

// Cut short at every place: at a field's end it is the fields ahead, anywhere else ErrShort; of the request, and of what is
// in it, cut short where its length says so.
func TestCut(t *testing.T) {
	for _, l := range levels() {
		all := strings.Join(l.fields, "")
		ends := map[int]bool{0: true}
		end := 0
		for _, f := range l.fields {
			end += len(f)
			ends[end] = true
		}
		for n := range len(all) + 1 {
			s, ahead := l.within(all[:n])
			if !ends[n] {
				checkRead(t, s, ahead, api.ErrShort)
			} else if e := checkPlain(t, s); e != api.OK {
				t.Errorf("%s, cut short at %d: %d", l.name, n, e)
			}
		}
	}
}

// What a request, cut short at every place, is: of its own series all, or none.
func TestCutRequest(t *testing.T) {
	r := newRow()
	for range 60 {
		l := r.list()
		s := request.Encode(l)
		whole := 0
		for n := range len(s) + 1 {
			if n > len(request.Encode(l[:whole])) {
				whole++
			}
			if n == len(request.Encode(l[:whole])) {
				checkRead(t, s[:n], l[:whole], api.OK)
			} else {
				checkRead(t, s[:n], nil, api.ErrShort)
			}
		}
	}
}

// What counts of two things that are wrong. Each of the pieces is told by an error of its own.
func TestFirstCounts(t *testing.T) {
	const (
		short  = "\x0A"     // in a series, a label, a sample: ErrShort
		noForm = "\x03"     // in all of them: ErrForm
		own    = "\x08\x01" // in a request, a series, a label: ErrForm, but behind what it itself has of proto.Read
	)
	good := list(ofLabels(label("a", "b")))
	ok := text(1, plainSeries(good[0]))
	shortLabel, formLabel, ownLabel := text(1, short), text(1, noForm), text(1, own)
	shortSample, formSample, ownSample := text(2, short), text(2, noForm), text(2, "\x0A\x00")
	series := func(pieces ...string) string { return text(1, strings.Join(pieces, "")) }
	cases := []struct {
		s     string
		ahead []api.Series
		e     api.Errno
	}{
		// the request's own fields, ahead of what any series has
		{series(shortLabel) + own, nil, api.ErrForm}, {own + series(shortLabel), nil, api.ErrForm}, {series(short) + ok + own, nil, api.ErrForm},
		{series(shortSample) + own, nil, api.ErrForm}, {ok + series(formLabel) + short, nil, api.ErrShort}, {series(noForm) + short, nil, api.ErrShort},
		{series(formSample) + short, nil, api.ErrShort}, {own + short, nil, api.ErrShort}, {own + noForm, nil, api.ErrForm}, {series(short) + noForm, nil, api.ErrForm},
		{ok + own + ok, nil, api.ErrForm}, {ok + ok + "\x0D\x00\x00\x00\x00", nil, api.ErrForm}, {ok + eight(1, 0), nil, api.ErrForm}, {ok + short, nil, api.ErrShort},
		// an earlier series, with all that it has, ahead of a later one
		{ok + series(shortSample) + series(own), good, api.ErrShort}, {ok + series(formSample) + series(short), good, api.ErrForm},
		{series(shortLabel) + ok + series(noForm), nil, api.ErrShort}, {series(formLabel) + series(short), nil, api.ErrForm},
		{ok + ok + series(own) + series(short), list(good[0], good[0]), api.ErrForm}, {ok + series(short) + ok + series(own), good, api.ErrShort},
		// a series' own fields, ahead of what any label, or sample, has
		{series(shortLabel, own), nil, api.ErrForm}, {series(shortLabel, number(2, 1)), nil, api.ErrForm}, {series(shortSample, own), nil, api.ErrForm},
		{series(shortSample, eight(2, 1)), nil, api.ErrForm}, {series(shortSample, four(1, 1)), nil, api.ErrForm}, {series(formLabel, short), nil, api.ErrShort},
		{series(formSample, own, short), nil, api.ErrShort}, {series(shortLabel, shortSample, noForm), nil, api.ErrForm},
		// any label ahead of any sample, whichever stands first
		{series(shortLabel, formSample), nil, api.ErrShort}, {series(formSample, shortLabel), nil, api.ErrShort}, {series(formLabel, shortSample), nil, api.ErrForm},
		{series(shortSample, formLabel), nil, api.ErrForm}, {series(shortSample, ownLabel), nil, api.ErrForm}, {series(ownSample, shortLabel), nil, api.ErrShort},
		{series(shortSample, text(1, ""), text(2, ""), ownLabel), nil, api.ErrForm},
		// an earlier label ahead of a later one, an earlier sample ahead of a later one
		{series(shortLabel, formLabel), nil, api.ErrShort}, {series(formLabel, shortLabel), nil, api.ErrForm}, {series(ownLabel, shortLabel), nil, api.ErrForm},
		{series(text(1, ""), shortLabel, ownLabel), nil, api.ErrShort}, {series(text(1, number(2, 1)), shortLabel), nil, api.ErrForm},
		{series(shortSample, formSample), nil, api.ErrShort}, {series(formSample, shortSample), nil, api.ErrForm}, {series(ownSample, shortSample), nil, api.ErrForm},
		{series(text(2, ""), shortSample, ownSample), nil, api.ErrShort}, {series(text(2, text(2, "")), shortSample), nil, api.ErrForm},
		// what a label, a sample itself has of proto.Read, ahead of what its fields are
		{series(text(1, own+short)), nil, api.ErrShort}, {series(text(1, number(2, 1)+short)), nil, api.ErrShort},
		{series(text(2, text(1, "")+short)), nil, api.ErrShort}, {series(text(2, eight(2, 1)+short)), nil, api.ErrShort},
	}
	for _, c := range cases {
		checkRead(t, c.s, c.ahead, c.e)
		checkPlain(t, c.s)
	}
}

// P6.6, the table of errors: a field of another wire type is wrong also where one that is right counts, ahead of it or behind.
func TestWrongNotLast(t *testing.T) {
	for _, l := range levels() {
		for _, w := range l.wrong {
			for _, f := range l.fields {
				for _, s := range []string{f + w.s, w.s + f, f + w.s + f, f + f + w.s} {
					s, ahead := l.within(s)
					checkRead(t, s, ahead, api.ErrForm)
				}
			}
		}
	}
}

// P6.5: fields of other numbers, of each wire type, at every place of a request, a series, a label, a sample.
func TestOtherFields(t *testing.T) {
	for _, l := range levels() {
		right, _ := l.within(strings.Join(l.fields, ""))
		want, e := plainRead(right)
		if e != api.OK {
			t.Fatalf("%s: %d", l.name, e)
		}
		least := uint64(3)
		if l.name == "request" {
			least = 2
		}
		all := strings.Join(others(least), "")
		for _, s := range append(others(least), all, longKey(least, 2, 10)+longer(1, 10)+"\x03", longKey(least, 0, 5)+longer(0, 10)) {
			for at := range len(l.fields) + 1 {
				s, _ := l.within(strings.Join(slices.Insert(slices.Clone(l.fields), at, s), ""))
				checkRead(t, s, want, api.OK)
			}
			s, _ := l.within(s + strings.Join(l.fields, s) + s)
			checkRead(t, s, want, api.OK)
		}
	}
}

// P6.5: what stands in a field of another number is not looked at, be it a message or not.
func TestOtherAlone(t *testing.T) {
	for _, s := range others(2) {
		checkRead(t, s, nil, api.OK)
		checkRead(t, s+s, nil, api.OK)
	}
	for _, s := range others(3) {
		checkRead(t, text(1, s), list(api.Series{}), api.OK)
		checkRead(t, text(1, text(1, s)+text(2, s)), list(both(ofLabels(label("", "")), sample(0, 0))), api.OK)
	}
	for _, w := range append(unread(), unended()...) {
		checkRead(t, text(2, w.s), nil, api.OK)
		checkRead(t, text(1, text(3, w.s)), list(api.Series{}), api.OK)
		checkRead(t, text(1, text(1, text(3, w.s)+text(1, w.s))), list(ofLabels(label(w.s, ""))), api.OK)
		checkRead(t, text(1, text(2, text(3, w.s))), list(ofSamples(sample(0, 0))), api.OK)
	}
}

// R1: any bytes are answered; as they are without the package.
func TestAnyBytes(t *testing.T) {
	for a := range 256 {
		checkPlain(t, string([]byte{byte(a)}))
		for b := range 256 {
			checkPlain(t, string([]byte{byte(a), byte(b)}))
		}
	}
	r := newRow()
	const few = "\x00\x01\x02\x03\x08\x09\x0A\x0D\x10\x11\x12\x15\x1A\x80\xFF"
	for range 30000 {
		b := make([]byte, r.below(24))
		for i := range b {
			b[i] = few[r.below(len(few))]
		}
		checkPlain(t, string(b))
		checkPlain(t, text(1, string(b)))
		checkPlain(t, "\x0A\x00"+text(1, text(1+uint64(r.below(2)), string(b))))
	}
}

// R1: requests in which some bytes are changed, left out, or put in, are answered as they are without the package.
func TestChanged(t *testing.T) {
	r := newRow()
	counts := map[api.Errno]int{}
	for range 30000 {
		b := []byte(request.Encode(r.list()))
		for range 1 + r.below(3) {
			at := r.below(len(b) + 1)
			switch end := min(len(b), at+1); r.below(3) {
			case 0:
				b = slices.Delete(b, at, end)
			case 1:
				b = slices.Insert(b, at, byte(r.next()))
			default:
				b = slices.Replace(b, at, end, "\x00\x01\x02\x08\x09\x0A\x0D\x10\x11\x12\x15\x1A\x80"[r.below(13)])
			}
		}
		counts[checkPlain(t, string(b))]++
	}
	if len(counts) != 3 || counts[api.OK] < 1000 || counts[api.ErrForm] < 1000 || counts[api.ErrShort] < 1000 {
		t.Errorf("errors: %v", counts)
	}
}
