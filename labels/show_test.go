package labels_test

import (
	"fmt"
	"slices"
	"strings"
	"testing"

	"baton/api"
	"baton/labels"
)

// P5.3: the document's own examples.
func TestExamples(t *testing.T) {
	checkShow(t, list("job", "api", "zone", "a"), `{job="api",zone="a"}`, api.OK)
	checkShow(t, list("a", "é"), `{a="\u{e9}"}`, api.OK)
	checkParse(t, `{job="api",zone="a"}`, list("job", "api", "zone", "a"), api.OK)
	checkParse(t, `{a="é"}`, list("a", "é"), api.OK)
	checkParse(t, `{a="\u{0000e9}"}`, list("a", "é"), api.OK)
	checkParse(t, `{}`, nil, api.ErrForm)
	checkParse(t, `{ a="b"}`, nil, api.ErrForm)
	checkParse(t, `{b="",a="x"}`, nil, api.ErrForm)
}

// P5.3: in a value a backslash and a quote have a backslash ahead; a rune above 7E is told by its number.
func TestShow(t *testing.T) {
	checkShow(t, list("a", `\`), `{a="\\"}`, api.OK)
	checkShow(t, list("a", `"`), `{a="\""}`, api.OK)
	checkShow(t, list("a", `\"`), `{a="\\\""}`, api.OK)
	checkShow(t, list("a", `\\u{e9}`), `{a="\\\\u{e9}"}`, api.OK)
	checkShow(t, list("a", `",b="`), `{a="\",b=\""}`, api.OK)
	checkShow(t, list("a", "{}=, '`~"), "{a=\"{}=, '`~\"}", api.OK)
	numbers := map[rune]string{0x80: "80", 0x9F: "9f", 0xA0: "a0", 0x7FF: "7ff", 0x800: "800", 0xD7FF: "d7ff", 0xE000: "e000", 0xFFFD: "fffd", 0xFFFF: "ffff", 0x10000: "10000", 0xABCDE: "abcde", 0x10FFFF: "10ffff"}
	for r, digits := range numbers {
		checkShow(t, list("a", string(r)), `{a="\u{`+digits+`}"}`, api.OK)
		checkShow(t, list("a", "x"+string(r)+"1", "b", string(r)+"é"), `{a="x\u{`+digits+`}1",b="\u{`+digits+`}\u{e9}"}`, api.OK)
	}
	for r := rune(0x20); r < 0x7F; r++ {
		if r != '\\' && r != '"' {
			checkShow(t, list("a", string(r)), `{a="`+string(r)+`"}`, api.OK)
		}
	}
	checkShow(t, many(3), `{a0000="x",a0001="x",a0002="x"}`, api.OK)
}

// The table of errors: labels that may not be are not shown.
func TestShowWrong(t *testing.T) {
	for _, l := range wrongLabels() {
		checkShow(t, l, "", api.ErrForm)
	}
	for _, s := range broken() {
		checkShow(t, list("a", s), "", api.ErrForm)
		checkShow(t, list("a", "x", "b", s), "", api.ErrForm)
	}
	for _, r := range wrongRunes() {
		checkShow(t, list("a", string(r)), "", api.ErrForm)
	}
}

// P5.4: Parse of Show are the labels, with the most that may be, too.
func TestBack(t *testing.T) {
	back := func(l []api.Label) {
		t.Helper()
		checkShow(t, l, plainShow(l), api.OK)
		checkParse(t, plainShow(l), l, api.OK)
	}
	r := newRow()
	for range 3000 {
		back(r.labels())
	}
	for _, r := range ends() {
		back(list("a", string(r)))
		back(list(strings.Repeat("a", 64), strings.Repeat(string(r), 64)))
	}
	for count := 1; count <= 16; count++ {
		back(many(count))
	}
}

// P5.3: a rune above 7E is read as it stands; and one that has no mark is shown, and read, as it is.
func TestParseRunes(t *testing.T) {
	for _, r := range ends() {
		if r != '\\' && r != '"' {
			checkParse(t, `{a="`+string(r)+`"}`, list("a", string(r)), api.OK)
			checkParse(t, `{a="x`+string(r)+`y",b="`+string(r)+`"}`, list("a", "x"+string(r)+"y", "b", string(r)), api.OK)
		}
		checkParse(t, fmt.Sprintf(`{a="\u{%x}"}`, r), list("a", string(r)), api.OK)
		checkParse(t, fmt.Sprintf(`{a="x\u{%06x}y"}`, r), list("a", "x"+string(r)+"y"), api.OK)
	}
	for _, r := range wrongRunes() {
		checkParse(t, `{a="`+string(r)+`"}`, nil, api.ErrForm)
		checkParse(t, `{a="x`+string(r)+`"}`, nil, api.ErrForm)
		checkParse(t, fmt.Sprintf(`{a="\u{%x}"}`, r), nil, api.ErrForm)
		checkParse(t, fmt.Sprintf(`{a="x\u{%06x}x"}`, r), nil, api.ErrForm)
	}
	for _, s := range broken() {
		checkParse(t, `{a="`+s+`"}`, nil, api.ErrForm)
		checkParse(t, `{a="x`+s+`x"}`, nil, api.ErrForm)
		checkParse(t, `{a="`+s+`\u{e9}"}`, nil, api.ErrForm)
		checkParse(t, `{`+s+`="x"}`, nil, api.ErrForm)
		checkParse(t, s+`{a="x"}`, nil, api.ErrForm)
	}
}

// P5.3: the number of a rune: 1 to 6 digits, none of them great, of a rune.
func TestParseNumbers(t *testing.T) {
	number := func(digits string, r rune) {
		t.Helper()
		want, e := list("a", string(r)), api.OK
		if r < 0 {
			want, e = nil, api.ErrForm
		}
		checkParse(t, `{a="\u{`+digits+`}"}`, want, e)
	}
	for _, digits := range []string{"", "g", "E9", "eG", "0E9", "1F600", "AB", "e9 ", " e9", "e 9", "-e9", "+e9", "0xe9", "xe9", "e_9", "e9h", "é", "{e9", "e9,", "\x00", "e9\"",
		"00000e9", "0000000", "0000000e9", "1000000", "fffffff", "000010ffff", "100000e9", strings.Repeat("0", 1000) + "e9", strings.Repeat("f", 1000)} {
		number(digits, -1)
	}
	for _, digits := range []string{"e9", "0e9", "00e9", "000e9", "0000e9"} {
		number(digits, 0xE9)
	}
	for _, n := range []rune{0xD7FF, 0xE000, 0xFFFD, 0xFFFF, 0x10000, 0x10FFFF, 0xABCDEF, 0x110000, 0x12FFFF, 0x200000, 0xFFFFFF, 0xD800, 0xDBFF, 0xDC00, 0xDFFF, 0xDABC} {
		r := n
		if n > 0x10FFFF || n >= 0xD800 && n <= 0xDFFF {
			r = -1
		}
		for width := 4; width <= 6; width++ {
			number(fmt.Sprintf("%0*x", width, n), r)
		}
		number(fmt.Sprintf("%07x", n), -1)
	}
	for n := range rune(0x400) {
		r := n
		if n < 0x20 || n == 0x7F {
			r = -1
		}
		number(fmt.Sprintf("%x", n), r)
		number(fmt.Sprintf("%04x", n), r)
	}
	for b := range 256 {
		isDigit := strings.IndexByte("0123456789abcdef", byte(b)) >= 0
		if _, e := labels.Parse(`{a="\u{8` + string([]byte{byte(b)}) + `}"}`); (e == api.OK) != isDigit {
			t.Errorf("a digit %x: %d", b, e)
		}
	}
}

// P5.3: a mark that is not whole, or none at all.
func TestParseMarks(t *testing.T) {
	for b := range 256 {
		mark := `\` + string([]byte{byte(b)})
		switch b {
		case '\\', '"':
			checkParse(t, `{a="x`+mark+`y"}`, list("a", "x"+mark[1:]+"y"), api.OK)
			checkParse(t, `{a="`+mark+`{e9}"}`, list("a", mark[1:]+"{e9}"), api.OK)
			continue
		case 'u':
			checkParse(t, `{a="`+mark+`{e9}"}`, list("a", "é"), api.OK)
		default:
			checkParse(t, `{a="`+mark+`{e9}"}`, nil, api.ErrForm)
		}
		checkParse(t, `{a="x`+mark+`y"}`, nil, api.ErrForm)
		checkParse(t, `{a="`+mark+`"}`, nil, api.ErrForm)
	}
	for _, value := range []string{`\`, `x\`, `\u`, `\ue9`, `\u{`, `\u{e9`, `\u{}`, `\u e9}`, `\ue9}`, `\u{{e9}`, `\u(e9)`, `\u{e9)`, `\U{e9}`, `\x41`, `\n`, `\t`, `\'`, `\é`, `\u{e9\u{e9}`, `\u{"}`, `\u{\}`, `\{e9}`} {
		checkParse(t, `{a="`+value+`"}`, nil, api.ErrForm)
		checkParse(t, `{a="x`+value+`",b="y"}`, nil, api.ErrForm)
	}
	checkParse(t, `{a="\\u{e9}"}`, list("a", `\u{e9}`), api.OK)
	checkParse(t, `{a="\u{e9}}"}`, list("a", `é}`), api.OK)
	checkParse(t, `{a="u{e9}"}`, list("a", `u{e9}`), api.OK)
	checkParse(t, `{a="\\\\\"\\"}`, list("a", `\\"\`), api.OK)
}

// P5.3: nothing else may stand between, of any byte, at any place; nor ahead, nor behind.
func TestParseBetween(t *testing.T) {
	shown := `{a="x",bc="\u{e9}\"\\"}`
	l := list("a", "x", "bc", `é"\`)
	checkParse(t, shown, l, api.OK)
	for at := range len(shown) + 1 {
		for b := range 256 {
			s := shown[:at] + string([]byte{byte(b)}) + shown[at:]
			want, e := plainParse(s)
			checkParse(t, s, want, e)
			if at < len(shown) {
				s = shown[:at] + string([]byte{byte(b)}) + shown[at+1:]
				want, e = plainParse(s)
				checkParse(t, s, want, e)
			}
		}
	}
	blanks := map[int]string{4: " x", 5: "x ", 11: " é\"\\", 17: "é \"\\", 19: "é\" \\", 21: "é\"\\ "} // within a value a blank is a rune
	for at := range len(shown) + 1 {
		s := shown[:at] + " " + shown[at:]
		switch value, is := blanks[at]; {
		case !is:
			checkParse(t, s, nil, api.ErrForm)
		case at <= 5:
			checkParse(t, s, list("a", value, "bc", `é"\`), api.OK)
		default:
			checkParse(t, s, list("a", "x", "bc", value), api.OK)
		}
	}
	for _, s := range []string{"\t", "\n", "\r", "\x00", "\xA0", "\u00A0", "\uFEFF", "\u2028"} {
		for _, at := range []int{0, 1, 2, 3, 6, 7, 8, 9, 10, 22, 23} {
			checkParse(t, shown[:at]+s+shown[at:], nil, api.ErrForm)
		}
	}
}

// P5.3: texts that are not whole, or more than that.
func TestParseWrong(t *testing.T) {
	shown := `{a="x",bc="\u{e9}\"\\"}`
	for at := range len(shown) {
		checkParse(t, shown[:at], nil, api.ErrForm)
	}
	for at := 1; at < len(shown); at++ {
		checkParse(t, shown[at:], nil, api.ErrForm)
	}
	for _, s := range []string{
		"", "{", "}", "{}", "{,}", "{=}", `{""}`, `{=""}`, `{="x"}`, `{a}`, `{a=}`, `{a=x}`, `{a=""}`, `{a="}`, `{a='x'}`, `{a:"x"}`, `{a=="x"}`, `{a=x"}`, `{"a"="x"}`,
		`{a="x",}`, `{,a="x"}`, `{a="x",,b="y"}`, `{a="x"b="y"}`, `{a="x";b="y"}`, `{a="x",b}`, `{a="x",b=}`, `{a="x",b="y"`, `{a="x"}}`, `{{a="x"}`, `{{a="x"}}`, `a="x"`, `(a="x")`, `[a="x"]`,
		`{a="x"},`, `{a="x"}{a="x"}`, `{a="x"}{b="y"}`, `{a="x""y"}`, `{a="x"y}`, `{a="x"",b="y"}`, `{9a="x"}`, `{a-b="x"}`, `{é="x"}`, `{\u{61}="x"}`, `{a\="x"}`, `{a="x",a="x"}`, `{a="x",a="y"}`, `{b="x",a="y"}`, `{b="",a="x"}`, `{ab="x",a="y"}`,
		`{a="x",b=""}`, `{a="x",B="y"}`, "{a=\"x\"}\n", "{a=\"x\"}\x00", "{a=\"x\n\"}",
	} {
		checkParse(t, s, nil, api.ErrForm)
	}
	for b := range 256 {
		checkParse(t, shown+string([]byte{byte(b)}), nil, api.ErrForm)
		checkParse(t, string([]byte{byte(b)})+shown, nil, api.ErrForm)
	}
}

// P5.3: the ends of what may be, of what is read.
func TestParseEnds(t *testing.T) {
	for count := range 40 {
		l, e := many(count), api.OK
		if count < 1 || count > 16 {
			l, e = nil, api.ErrForm
		}
		checkParse(t, plainShow(many(count)), l, e)
	}
	for _, mark := range []string{"x", "é", "日", "\U0001F600", `\\`, `\"`, `\u{e9}`, `\u{0000e9}`, `\u{10ffff}`} {
		for _, count := range []int{0, 1, 63, 64, 65, 66, 1000} {
			s := `{a="` + strings.Repeat(mark, count) + `"}`
			if _, e := labels.Parse(s); (e == api.OK) != (count >= 1 && count <= 64) {
				t.Errorf("Parse of %d times %s: %d", count, mark, e)
			}
			want, e := plainParse(s)
			checkParse(t, s, want, e)
		}
	}
	for _, count := range []int{0, 1, 63, 64, 65, 1000} {
		s := `{` + strings.Repeat("a", count) + `="x"}`
		want, e := plainParse(s)
		checkParse(t, s, want, e)
	}
}

// P5.3, P5.5: any text, as a plain one of the test's own has it; what is read, shown, and read again, is the same, and shown
// again as it was.
func TestParseAny(t *testing.T) {
	pieces := []string{"{", "}", ",", "=", `"`, `\`, `\\`, `\"`, `\u{`, "e9}", `\u{e9}`, `\u{0000e9}`, `\u{41}`, `\u{d800}`, `\u{7f}`, "a", "b", "Z", "_", "0", " ", "é", "日", "\xC3", "\xA9", "\x7F", "\x1F", `="x",`, `="y"`}
	r := newRow()
	read := 0
	for range 60000 {
		s := plainShow(r.labels()[:1])
		if r.below(2) == 0 {
			s = `{a="` + strings.Repeat(`\u{00e9}x`, r.below(3)) + `é",b="` + string(ends()[r.below(3)]) + `"}`
		}
		for range r.below(4) {
			at := r.below(len(s) + 1)
			s = s[:at] + pieces[r.below(len(pieces))] + s[at+min(r.below(2), len(s)-at):]
		}
		l, e := plainParse(s)
		checkParse(t, s, l, e)
		if e == api.OK {
			read++
			checkAgain(t, s)
		}
	}
	if read < 10000 {
		t.Errorf("only %d of them were read", read)
	}
}

// checkAgain reads a text that may be read, shows it, reads it again, and shows it again.
func checkAgain(t *testing.T, s string) {
	t.Helper()
	l, _ := labels.Parse(s)
	if !labels.May(l) {
		t.Errorf("Parse(%q) = %s, which may not be", s, tell(l))
	}
	shown, e := labels.Show(l)
	again, againE := labels.Parse(shown)
	if e != api.OK || againE != api.OK || !equal(again, l) {
		t.Errorf("Parse(%q) = %s; shown %s, %d; read again %s, %d", s, tell(l), shown, e, tell(again), againE)
	}
	if shownAgain, e := labels.Show(again); e != api.OK || shownAgain != shown {
		t.Errorf("Parse(%q), shown: %s; shown again: %s", s, shown, shownAgain)
	}
}

// P5.5: one way: other ways to say the same labels are shown as one.
func TestOneWay(t *testing.T) {
	for _, s := range []string{`{a="é\\"}`, `{a="\u{e9}\\"}`, `{a="\u{0e9}\u{5c}"}`, `{a="\u{0000e9}\u{00005c}"}`, `{a="é\u{5c}"}`} {
		l, e := labels.Parse(s)
		shown, _ := labels.Show(l)
		if e != api.OK || shown != `{a="\u{e9}\\"}` {
			t.Errorf("Parse(%s) = %s, %d; shown %s", s, tell(l), e, shown)
		}
		checkAgain(t, s)
	}
}

// R1: long texts end, whatever is wrong with them.
func TestParseLong(t *testing.T) {
	const count = 1 << 18
	for _, s := range []string{"{", "a", `"`, `\`, "=", `{a="`, `\u{`, `a="x",`, "é", "\xFF", `\\`, `\"`, "0"} {
		long := strings.Repeat(s, count)
		for _, whole := range []string{long, "{" + long, `{a="` + long, `{a="` + long + `"}`, `{a="\u{` + long + `}"}`, "{" + long + `z="x"}`, `{a="x"}` + long} {
			checkParse(t, whole, nil, api.ErrForm)
		}
	}
	l := slices.Repeat(many(1), count)
	checkMay(t, l, false)
	checkShow(t, l, "", api.ErrForm)
	checkWithout(t, l, "a0000", nil)
	checkWithout(t, l, "b", l)
	checkGet(t, l, "b", "", false)
	checkSame(t, l, slices.Clone(l), true)
}
