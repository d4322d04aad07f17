package labels_test

import (
	"encoding/binary"
	"fmt"
	"regexp"
	"slices"
	"strconv"
	"strings"
	"testing"
	"unicode/utf8"

	"baton/api"
	"baton/labels"
)

// row is a fixed row of numbers without a plain rule.
type row uint64

func newRow() *row {
	r := row(88172645463325252)
	return &r
}

func (r *row) next() uint64 {
	*r ^= *r << 13
	*r ^= *r >> 7
	*r ^= *r << 17
	return uint64(*r)
}

// below is a number from 0 on, below end.
func (r *row) below(end int) int { return int(r.next() >> 33 % uint64(end)) }

// ends are runes that may be in a value: the first and the last one of each count of bytes, those beside what may not be, and
// those that are shown otherwise than as they are.
func ends() []rune {
	return []rune{' ', '!', '"', '#', '[', '\\', ']', 'a', '{', '}', 0x7E, 0x80, 0x9F, 0xA0, 0xE9, 0x7FF, 0x800, 0xD7FF, 0xE000, 0xFFFD, 0xFFFE, 0xFFFF, 0x10000, 0x1F600, 0x10FFFE, 0x10FFFF}
}

// wrongRunes are those that are valid, but may not be in a value.
func wrongRunes() []rune {
	list := []rune{0x7F}
	for r := range rune(0x20) {
		list = append(list, r)
	}
	return list
}

// broken are no valid UTF-8, wherever they stand.
func broken() []string {
	return []string{
		"\x80", "\xBF", "\xC3", "\xE2", "\xF0", "\xFE", "\xFF", // a byte alone
		"\xE2\x82", "\xF0\x9F\x98", "\xF0\x9F", // a rune cut short
		"\xC0\x80", "\xC1\xA1", "\xC0\xA2", "\xE0\x80\xA2", "\xE0\x9F\xBF", "\xF0\x80\x80\xA2", "\xF0\x8F\xBF\xBF", // in more bytes than must be
		"\xED\xA0\x80", "\xED\xBF\xBF", "\xED\xA0\xBD\xED\xB8\x80", // surrogates
		"\xF4\x90\x80\x80", "\xF5\x80\x80\x80", "\xF7\xBF\xBF\xBF", "\xF8\x88\x80\x80\x80", // above 10FFFF
	}
}

// value is one that may be.
func (r *row) value() string {
	list := ends()
	var b strings.Builder
	for range 1 + r.below(1+r.below(64)) {
		switch r.below(3) {
		case 0:
			b.WriteRune(list[r.below(len(list))])
		case 1:
			b.WriteByte("ab\"\\"[r.below(4)])
		default:
			b.WriteRune(rune(0xA0 + r.below(0xD000)))
		}
	}
	return b.String()
}

// name is one that may be.
func (r *row) name() string {
	const bytes = "ab_AZaz09"
	b := make([]byte, 1+r.below(1+r.below(64)))
	for i := range b {
		b[i] = bytes[r.below(len(bytes))]
	}
	if b[0] <= '9' {
		b[0] = '_'
	}
	return string(b)
}

// labels are ones that may be.
func (r *row) labels() []api.Label {
	var l []api.Label
	for range 1 + r.below(16) {
		l = append(l, api.Label{Name: r.name(), Value: r.value()})
	}
	slices.SortFunc(l, func(a, b api.Label) int { return strings.Compare(a.Name, b.Name) })
	return slices.CompactFunc(l, func(a, b api.Label) bool { return a.Name == b.Name })
}

// list are labels of these names and values, one behind the other.
func list(texts ...string) []api.Label {
	var l []api.Label
	for pair := range slices.Chunk(texts, 2) {
		l = append(l, api.Label{Name: pair[0], Value: pair[1]})
	}
	return l
}

// many are so many labels, whose names rise.
func many(count int) []api.Label {
	var l []api.Label
	for i := range count {
		l = append(l, api.Label{Name: fmt.Sprintf("a%04d", i), Value: "x"})
	}
	return l
}

// wrongLabels may not be, each for one reason alone.
func wrongLabels() [][]api.Label {
	return [][]api.Label{
		nil, many(17), many(18), many(1000),
		list("", "x"), list("9a", "x"), list("a-b", "x"), list("é", "x"), list(strings.Repeat("a", 65), "x"),
		list("a", ""), list("a", "\x1F"), list("a", "\x7F"), list("a", "\xC3"), list("a", strings.Repeat("x", 65)), list("a", strings.Repeat("é", 65)),
		list("a", "x", "a", "x"), list("b", "x", "a", "x"), list("ab", "x", "a", "x"), list("a", "x", "c", "x", "b", "x"), list("a", "x", "c", "x", "c", "y"),
		list("_", "x", "Z", "x"), list("a", "x", "_", "x"), list("a", "x", "Z", "x"), list("a", "x", "b", ""), list("a", "x", "b", "x", "9", "x"), list("", "x", "a", "x"),
	}
}

var (
	plainName  = regexp.MustCompile(`^[A-Za-z_][A-Za-z0-9_]{0,63}$`)
	plainValue = regexp.MustCompile(`^[\x20-\x7E\x{80}-\x{10FFFF}]{1,64}$`)
	plainLabel = regexp.MustCompile(`([^{,="]*)="((?:[^"\\]|\\["\\]|\\u\{[0-9a-f]{1,6}\})*)"`)
	plainShown = regexp.MustCompile(`^\{` + plainLabel.String() + `(?:,` + plainLabel.String() + `)*\}$`)
	plainMark  = regexp.MustCompile(`\\(?:["\\]|u\{[0-9a-f]{1,6}\})`)
)

// plainMay is what May is to answer.
func plainMay(l []api.Label) bool {
	for i, x := range l {
		if !plainName.MatchString(x.Name) || !plainValue.MatchString(x.Value) || !utf8.ValidString(x.Value) {
			return false
		}
		if i > 0 && strings.Compare(l[i-1].Name, x.Name) >= 0 {
			return false
		}
	}
	return len(l) >= 1 && len(l) <= 16
}

// plainKey is what Key is to answer.
func plainKey(l []api.Label) string {
	var b strings.Builder
	for _, x := range l {
		b.WriteString(text(x.Name) + text(x.Value))
	}
	return b.String()
}

// text is a text's length, and its bytes.
func text(s string) string { return varint(uint64(len(s))) + s }

func varint(n uint64) string { return string(binary.AppendUvarint(nil, n)) }

// longer is a varint in so many bytes, as many as must be or more, 10 at most.
func longer(n uint64, size int) string {
	b := make([]byte, size)
	for i := range b {
		b[i] = byte(n) | 0x80
		n >>= 7
	}
	b[size-1] &= 0x7F
	return string(b)
}

// plainText is the text at the begin of a text, and what stands behind it.
func plainText(s string, most uint64) (piece, rest string, e api.Errno) {
	n, size := binary.Uvarint([]byte(s))
	switch {
	case size < 0 || size == 0 && len(s) >= 10:
		return "", "", api.ErrForm
	case size == 0:
		return "", "", api.ErrShort
	case n > most:
		return "", "", api.ErrTooLarge
	case n > uint64(len(s)-size):
		return "", "", api.ErrShort
	}
	return s[size:][:n], s[size:][n:], api.OK
}

// plainOf is what Of is to answer, row by row as the table of errors says.
func plainOf(key string) ([]api.Label, api.Errno) {
	var l []api.Label
	for key != "" {
		var x api.Label
		var e api.Errno
		if x.Name, key, e = plainText(key, 64); e != api.OK {
			return nil, e
		}
		if x.Value, key, e = plainText(key, 256); e != api.OK {
			return nil, e
		}
		l = append(l, x)
	}
	if !plainMay(l) {
		return nil, api.ErrForm
	}
	return l, api.OK
}

// plainShow is what Show is to answer of labels that may be.
func plainShow(l []api.Label) string {
	var pieces []string
	for _, x := range l {
		value := strings.NewReplacer(`\`, `\\`, `"`, `\"`).Replace(x.Value)
		var b strings.Builder
		for _, r := range []rune(value) {
			if r > 0x7E {
				fmt.Fprintf(&b, `\u{%x}`, r)
			} else {
				b.WriteByte(byte(r))
			}
		}
		pieces = append(pieces, x.Name+`="`+b.String()+`"`)
	}
	return "{" + strings.Join(pieces, ",") + "}"
}

// plainParse is what Parse is to answer.
func plainParse(s string) ([]api.Label, api.Errno) {
	if !plainShown.MatchString(s) {
		return nil, api.ErrForm
	}
	var l []api.Label
	for _, found := range plainLabel.FindAllStringSubmatch(s, -1) {
		l = append(l, api.Label{Name: found[1], Value: plainMark.ReplaceAllStringFunc(found[2], meant)})
	}
	if !plainMay(l) {
		return nil, api.ErrForm
	}
	return l, api.OK
}

// meant is what a mark with a backslash ahead says; what is no rune is no valid UTF-8.
func meant(mark string) string {
	if mark[1] != 'u' {
		return mark[1:]
	}
	n, err := strconv.ParseUint(mark[3:len(mark)-1], 16, 32)
	if err != nil {
		panic(err)
	}
	if n > utf8.MaxRune || n >= 0xD800 && n <= 0xDFFF {
		return "\xFF"
	}
	return string(rune(n))
}

// equal holds labels against each other without the package.
func equal(a, b []api.Label) bool { return slices.Equal(a, b) }

func checkName(t *testing.T, s string, want bool) {
	t.Helper()
	if got := labels.MayName(s); got != want {
		t.Errorf("MayName(%.80q) (%d bytes) = %t", s, len(s), got)
	}
	if got := labels.May(list(s, "x")); got != want {
		t.Errorf("May of the name %.80q (%d bytes) = %t", s, len(s), got)
	}
}

func checkValue(t *testing.T, s string, want bool) {
	t.Helper()
	if got := labels.MayValue(s); got != want {
		t.Errorf("MayValue(%.80q) (%d bytes) = %t", s, len(s), got)
	}
	if got := labels.May(list("a", s)); got != want {
		t.Errorf("May of the value %.80q (%d bytes) = %t", s, len(s), got)
	}
}

func checkMay(t *testing.T, l []api.Label, want bool) {
	t.Helper()
	if got := labels.May(l); got != want {
		t.Errorf("May(%s) = %t", tell(l), got)
	}
}

func checkSame(t *testing.T, a, b []api.Label, want bool) {
	t.Helper()
	if got := labels.Same(a, b); got != want {
		t.Errorf("Same(%s, %s) = %t", tell(a), tell(b), got)
	}
	if got := labels.Same(b, a); got != want {
		t.Errorf("Same(%s, %s) = %t", tell(b), tell(a), got)
	}
}

func checkKey(t *testing.T, l []api.Label, want string) {
	t.Helper()
	if got := labels.Key(l); got != want {
		t.Errorf("Key(%s) = %.80x (%d bytes); want %.80x (%d bytes)", tell(l), got, len(got), want, len(want))
	}
}

func checkOf(t *testing.T, key string, l []api.Label, e api.Errno) {
	t.Helper()
	got, gotE := labels.Of(key)
	if gotE != e || !equal(got, l) {
		t.Errorf("Of(%.80x) (%d bytes) = %s, %d; want %s, %d", key, len(key), tell(got), gotE, tell(l), e)
	}
}

func checkShow(t *testing.T, l []api.Label, s string, e api.Errno) {
	t.Helper()
	if got, gotE := labels.Show(l); got != s || gotE != e {
		t.Errorf("Show(%s) = %.80s, %d; want %.80s, %d", tell(l), got, gotE, s, e)
	}
}

func checkParse(t *testing.T, s string, l []api.Label, e api.Errno) {
	t.Helper()
	got, gotE := labels.Parse(s)
	if gotE != e || !equal(got, l) {
		t.Errorf("Parse(%.80q) (%d bytes) = %s, %d; want %s, %d", s, len(s), tell(got), gotE, tell(l), e)
	}
}

func checkGet(t *testing.T, l []api.Label, name, want string, wantIs bool) {
	t.Helper()
	if got, is := labels.Get(l, name); got != want || is != wantIs {
		t.Errorf("Get(%s, %q) = %q, %t; want %q, %t", tell(l), name, got, is, want, wantIs)
	}
}

func checkWithout(t *testing.T, l []api.Label, name string, want []api.Label) {
	t.Helper()
	if got := labels.Without(l, name); !equal(got, want) {
		t.Errorf("Without(%s, %q) = %s; want %s", tell(l), name, tell(got), tell(want))
	}
}

// tell tells the first labels, short.
func tell(l []api.Label) string {
	var b strings.Builder
	for i, x := range l {
		if i == 6 {
			b.WriteString(" ..")
			break
		}
		fmt.Fprintf(&b, " %.20q=%.20q", x.Name, x.Value)
	}
	return fmt.Sprintf("[%s ] (%d)", b.String(), len(l))
}
