package request_test

import (
	"encoding/binary"
	"fmt"
	"math"
	"slices"
	"strings"
	"testing"

	"baton/api"
	"baton/request"
)

// row is a fixed row of numbers without a plain rule.
type row uint64

func newRow() *row {
	r := row(88172645463325252)
	return &r
}

func (r *row) next() uint64 {
	*r ^= *r << 13
	*r ^= *r >> 7
	*r ^= *r << 17
	return uint64(*r)
}

// below is a number from 0 on, below end.
func (r *row) below(end int) int { return int(r.next() >> 33 % uint64(end)) }

// Bytes, written without the package.

func varint(n uint64) string { return string(binary.AppendUvarint(nil, n)) }

// longer is a varint in so many bytes, as many as must be or more, 10 at most.
func longer(n uint64, size int) string {
	b := make([]byte, size)
	for i := range b {
		b[i] = byte(n) | 0x80
		n >>= 7
	}
	b[size-1] &= 0x7F
	return string(b)
}

// low is a number in so many bytes, the lowest one first.
func low(n uint64, size int) string {
	return string(binary.LittleEndian.AppendUint64(nil, n)[:size])
}

func number(num, n uint64) string      { return varint(num*8) + varint(n) }
func eight(num, n uint64) string       { return varint(num*8+1) + low(n, 8) }
func text(num uint64, s string) string { return varint(num*8+2) + varint(uint64(len(s))) + s }
func four(num, n uint64) string        { return varint(num*8+5) + low(n, 4) }

func plainLabel(x api.Label) string {
	s := ""
	if x.Name != "" {
		s += text(1, x.Name)
	}
	if x.Value != "" {
		s += text(2, x.Value)
	}
	return s
}

func plainSample(x api.Sample) string {
	s := ""
	if x.Bits != 0 {
		s += eight(1, x.Bits)
	}
	if x.Time != 0 {
		s += number(2, uint64(x.Time))
	}
	return s
}

func plainSeries(x api.Series) string {
	var b strings.Builder
	for _, l := range x.Labels {
		b.WriteString(text(1, plainLabel(l)))
	}
	for _, s := range x.Samples {
		b.WriteString(text(2, plainSample(s)))
	}
	return b.String()
}

// plainRequest is what Encode is to answer.
func plainRequest(l []api.Series) string {
	var b strings.Builder
	for _, x := range l {
		b.WriteString(text(1, plainSeries(x)))
	}
	return b.String()
}

// Bytes, read without the package.

// field is a number, a wire type, and what the value is: a number, or a text.
type field struct {
	num, wire, n uint64
	text         string
}

// plainVarint is the varint at the begin of a text, and what stands behind it.
func plainVarint(s string) (n uint64, rest string, e api.Errno) {
	for i := range 10 {
		if i == len(s) {
			return 0, "", api.ErrShort
		}
		if i == 9 && s[i] > 1 {
			return 0, "", api.ErrForm
		}
		n += uint64(s[i]%128) << (7 * i)
		if s[i] < 128 {
			return n, s[i+1:], api.OK
		}
	}
	panic("the tenth byte is the last one")
}

// plainFields are the fields of a message.
func plainFields(s string) (l []field, e api.Errno) {
	var n uint64
	for s != "" {
		if n, s, e = plainVarint(s); e != api.OK {
			return nil, e
		}
		f := field{num: n / 8, wire: n % 8}
		if n > math.MaxUint32 || f.num == 0 {
			return nil, api.ErrForm
		}
		size := uint64(0)
		switch f.wire {
		case 0:
			f.n, s, e = plainVarint(s)
		case 1:
			size = 8
		case 2:
			size, s, e = plainVarint(s)
		case 5:
			size = 4
		default:
			e = api.ErrForm
		}
		if e != api.OK {
			return nil, e
		}
		if size > uint64(len(s)) {
			return nil, api.ErrShort
		}
		f.text, s = s[:size], s[size:]
		if f.wire == 1 {
			f.n = binary.LittleEndian.Uint64([]byte(f.text))
		}
		l = append(l, f)
	}
	return l, api.OK
}

// typed are the fields of a message, of which those of the numbers 1, and 2, must have these wire types (9: any one).
func typed(s string, wires ...uint64) ([]field, api.Errno) {
	l, e := plainFields(s)
	for _, f := range l {
		if f.num <= 2 && wires[f.num-1] != 9 && wires[f.num-1] != f.wire {
			return nil, api.ErrForm
		}
	}
	return l, e
}

func plainReadLabel(s string) (x api.Label, e api.Errno) {
	l, e := typed(s, 2, 2)
	for _, f := range l {
		switch f.num {
		case 1:
			x.Name = f.text
		case 2:
			x.Value = f.text
		}
	}
	return x, e
}

func plainReadSample(s string) (x api.Sample, e api.Errno) {
	l, e := typed(s, 1, 0)
	for _, f := range l {
		switch f.num {
		case 1:
			x.Bits = f.n
		case 2:
			x.Time = int64(f.n)
		}
	}
	return x, e
}

func plainReadSeries(s string) (x api.Series, e api.Errno) {
	l, e := typed(s, 2, 2)
	if e != api.OK {
		return x, e
	}
	for num := range uint64(2) {
		for _, f := range l {
			switch {
			case f.num != num+1:
				continue
			case num == 0:
				var label api.Label
				label, e = plainReadLabel(f.text)
				x.Labels = append(x.Labels, label)
			default:
				var sample api.Sample
				sample, e = plainReadSample(f.text)
				x.Samples = append(x.Samples, sample)
			}
			if e != api.OK {
				return api.Series{}, e
			}
		}
	}
	return x, api.OK
}

// plainRead are the series that Each is to tell with OK, and the error that is to follow, if there is one.
func plainRead(s string) (ahead []api.Series, e api.Errno) {
	l, e := typed(s, 2, 9)
	if e != api.OK {
		return nil, e
	}
	for _, f := range l {
		if f.num != 1 {
			continue
		}
		x, e := plainReadSeries(f.text)
		if e != api.OK {
			return ahead, e
		}
		ahead = append(ahead, x)
	}
	return ahead, api.OK
}

// Series.

func label(name, value string) api.Label            { return api.Label{Name: name, Value: value} }
func sample(time int64, bits uint64) api.Sample     { return api.Sample{Time: time, Bits: bits} }
func ofLabels(l ...api.Label) api.Series            { return api.Series{Labels: l} }
func ofSamples(l ...api.Sample) api.Series          { return api.Series{Samples: l} }
func list(l ...api.Series) []api.Series             { return l }
func both(x api.Series, l ...api.Sample) api.Series { return api.Series{Labels: x.Labels, Samples: l} }

// oddTexts are some that may be a name, or a value, and many that may not; here all are alike.
func oddTexts() []string {
	return []string{
		"", "a", "job", "9a", "a-b", " ", "\x00", "\x1F", "\x7F", "é", "\xC3", "\xFF\xFE", "\xED\xA0\x80", "\xF4\x90\x80\x80", "\"\\{}=,", "\x0A\x01a\x12\x01b", "\x08\x01",
		strings.Repeat("x", 64), strings.Repeat("x", 65), strings.Repeat("x", 127), strings.Repeat("x", 128), strings.Repeat("é", 8192), strings.Repeat("\x00", 16384),
	}
}

// oddTimes are those at the ends of what a time may be, of 64 bits, and of how many bytes they are written in.
func oddTimes() []int64 {
	return []int64{
		0, 1, 2, 127, 128, 16383, 16384, api.MaxTime - 1, api.MaxTime, api.MaxTime + 1, 1<<56 - 1, 1 << 56, math.MaxInt64 - 1, math.MaxInt64,
		-1, -2, -127, -128, -api.MaxTime, -api.MaxTime - 1, math.MinInt64 + 1, math.MinInt64,
	}
}

// oddBits are those of numbers, of what is none, and of nothing.
func oddBits() []uint64 {
	return []uint64{
		0, 1, 255, 256, 1 << 63, 1<<63 - 1, math.MaxUint64, 0x0102030405060708,
		math.Float64bits(1), math.Float64bits(-1), math.Float64bits(math.Inf(1)), math.Float64bits(math.NaN()), 0x7FF0000000000001, 0x7FF0000000000002,
	}
}

func (r *row) text() string {
	if r.below(4) == 0 {
		l := oddTexts()
		return l[r.below(len(l)-2)]
	}
	return low(r.next(), 8)[:r.below(9)]
}

func (r *row) sample() api.Sample {
	if r.below(2) == 0 {
		times, bits := oddTimes(), oddBits()
		return sample(times[r.below(len(times))], bits[r.below(len(bits))])
	}
	return sample(int64(r.next())>>r.below(64), r.next()>>r.below(64))
}

func (r *row) series() api.Series {
	var x api.Series
	for range r.below(4) {
		x.Labels = append(x.Labels, label(r.text(), r.text()))
	}
	for range r.below(4) {
		x.Samples = append(x.Samples, r.sample())
	}
	return x
}

func (r *row) list() []api.Series {
	var l []api.Series
	for range r.below(5) {
		l = append(l, r.series())
	}
	return l
}

// mixed is a series in a row that Encode has not: labels and samples among each other, and other fields among them.
func (r *row) mixed(x api.Series) string {
	var b strings.Builder
	labels, samples := x.Labels, x.Samples
	for len(labels)+len(samples) > 0 {
		switch {
		case r.below(4) == 0:
			b.WriteString(r.other(3))
		case len(samples) == 0 || len(labels) > 0 && r.below(2) == 0:
			b.WriteString(r.longText(1, r.scattered(text(1, r.text()), text(1, labels[0].Name), text(2, r.text()), text(2, labels[0].Value))))
			labels = labels[1:]
		default:
			b.WriteString(r.longText(2, r.scattered(eight(1, r.next()), eight(1, samples[0].Bits), number(2, r.next()), longKey(2, 0, 1+r.below(5))+longer(uint64(samples[0].Time), 10))))
			samples = samples[1:]
		}
	}
	return b.String()
}

// scattered is two fields, each behind one of its number that does not count, in this row or the other one, with other
// fields among them.
func (r *row) scattered(wrong1, right1, wrong2, right2 string) string {
	l := [][]string{{wrong1, right1, wrong2, right2}, {wrong2, wrong1, right2, right1}, {right2, right1}, {right1, right1, right2}}[r.below(4)]
	s := ""
	for _, f := range l {
		if r.below(4) == 0 {
			s += r.other(3)
		}
		s += f
	}
	return s
}

// longText is a text, its key and its length in as many bytes as must be, or more.
func (r *row) longText(num uint64, s string) string {
	if r.below(2) == 0 {
		return text(num, s)
	}
	return longKey(num, 2, 1+r.below(10)) + longer(uint64(len(s)), 5+r.below(6)) + s
}

// longKey is a field's first varint in so many bytes.
func longKey(num, wire uint64, size int) string { return longer(num*8+wire, size) }

// other is a field of a number from least on.
func (r *row) other(least uint64) string {
	l := others(least)
	return l[r.below(len(l))]
}

// others are fields of other numbers, of each wire type, at the ends of the numbers.
func others(least uint64) []string {
	var l []string
	for _, num := range []uint64{least, least + 1, 15, 16, 2048, 1<<29 - 1} {
		l = append(l, number(num, 0), number(num, math.MaxUint64), eight(num, 1), text(num, ""), text(num, "\x08"), text(num, "\x0A\x01a"), four(num, math.MaxUint32))
	}
	return l
}

// equal holds series against each other without the package.
func equal(a, b []api.Series) bool {
	if len(a) != len(b) {
		return false
	}
	for i := range a {
		if !slices.Equal(a[i].Labels, b[i].Labels) || !slices.Equal(a[i].Samples, b[i].Samples) {
			return false
		}
	}
	return true
}

// cloned shares no memory with what it is of.
func cloned(l []api.Series) []api.Series {
	l = slices.Clone(l)
	for i, x := range l {
		l[i] = api.Series{Labels: slices.Clone(x.Labels), Samples: slices.Clone(x.Samples)}
	}
	return l
}

// told are what Each tells, as far as most, each with its error.
func told(s string, most int) (l []api.Series, errnos []api.Errno) {
	for x, e := range request.Each(s) {
		l, errnos = append(l, x), append(errnos, e)
		if len(l) == most {
			break
		}
	}
	return l, errnos
}

// checkRead holds Decode, and Each, against the series ahead of what is wrong, and the error.
func checkRead(t *testing.T, s string, ahead []api.Series, e api.Errno) {
	t.Helper()
	want := ahead
	errnos := make([]api.Errno, len(ahead))
	if e != api.OK {
		want, ahead, errnos = nil, append(slices.Clip(ahead), api.Series{}), append(errnos, e)
	}
	if got, gotE := request.Decode(s); gotE != e || !equal(got, want) {
		t.Errorf("Decode(%s) = %s, %d; want %s, %d", bytesOf(s), tell(got), gotE, tell(want), e)
	}
	if got, gotE := told(s, -1); !slices.Equal(gotE, errnos) || !equal(got, ahead) {
		t.Errorf("Each(%s) tells %s, %d; want %s, %d", bytesOf(s), tell(got), gotE, tell(ahead), errnos)
	}
}

// checkPlain holds Decode, and Each, against what was read without the package.
func checkPlain(t *testing.T, s string) (e api.Errno) {
	t.Helper()
	ahead, e := plainRead(s)
	checkRead(t, s, ahead, e)
	return e
}

// checkBack encodes series, and decodes them again.
func checkBack(t *testing.T, l []api.Series, s string) {
	t.Helper()
	if got := request.Encode(l); got != s {
		t.Errorf("Encode(%s) = %s; want %s", tell(l), bytesOf(got), bytesOf(s))
	}
	checkRead(t, s, l, api.OK)
	if !request.Same(l, cloned(l)) {
		t.Errorf("Same(%s) = false, of itself", tell(l))
	}
}

func checkSame(t *testing.T, a, b []api.Series, want bool) {
	t.Helper()
	if got := request.Same(a, b); got != want {
		t.Errorf("Same(%s, %s) = %t", tell(a), tell(b), got)
	}
	if got := request.Same(b, a); got != want {
		t.Errorf("Same(%s, %s) = %t", tell(b), tell(a), got)
	}
}

func checkCount(t *testing.T, l []api.Series, labels, samples int) {
	t.Helper()
	if a, b := request.Count(l); a != labels || b != samples {
		t.Errorf("Count(%s) = %d, %d; want %d, %d", tell(l), a, b, labels, samples)
	}
}

// tell tells the first series, short.
func tell(l []api.Series) string {
	s := fmt.Sprintf("%+q", fmt.Sprintf("%v", l[:min(len(l), 4)]))
	return fmt.Sprintf("%.300s (%d)", s, len(l))
}

// bytesOf tells the first bytes.
func bytesOf(s string) string { return fmt.Sprintf("%.80x (%d bytes)", s, len(s)) }
