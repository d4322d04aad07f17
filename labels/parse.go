package labels

import (
	"strings"
	"unicode/utf8"

	"baton/api"
)

const (
	digits    = "0123456789abcdef"
	maxDigits = 6 // of a rune's number
)

// Parse are the labels that are shown by a text, if they may be.
func Parse(s string) (l []api.Label, e api.Errno) {
	defer func() {
		if recover() != nil {
			l, e = nil, api.ErrForm // whatever was thrown: a text is wrong in this way alone, and no call panics
		}
	}()
	r := reader{rest: s}
	return r.all(), api.OK
}

// reader goes over labels that are shown. What is wrong it throws, so that none of its steps has to ask how the one ahead
// went; it goes no further then.
type reader struct{ rest string }

// must throws, if something is not as it must be.
func must(is bool) {
	if !is {
		panic(api.ErrForm)
	}
}

// all are the labels, with nothing behind them.
func (r *reader) all() []api.Label {
	r.take("{")
	l := []api.Label{r.label()}
	for len(l) <= api.MaxLabels && r.next(",") { // of too many labels one is enough
		l = append(l, r.label())
	}
	r.take("}")
	must(r.rest == "" && May(l))
	return l
}

// label is the next label, which need not be one that may be.
func (r *reader) label() api.Label {
	name := r.until("=")
	r.take("=")
	return cloned(name, r.value())
}

// value is what the next value's runes are, between its quotes.
func (r *reader) value() string {
	var b strings.Builder
	r.take(`"`)
	for {
		b.WriteString(r.until(`"\`))
		if r.next(`"`) {
			return b.String()
		}
		r.take(`\`)
		b.WriteRune(r.escaped())
	}
}

// escaped is the rune that stands behind a backslash.
func (r *reader) escaped() rune {
	switch {
	case r.next(`\`):
		return '\\'
	case r.next(`"`):
		return '"'
	}
	r.take("u{")
	n := number(r.until("}"))
	r.take("}")
	must(utf8.ValidRune(n))
	return n
}

// number is what hexadecimal digits say, which need not be a rune.
func number(s string) rune {
	must(s != "" && len(s) <= maxDigits)
	n := rune(0)
	for i := range len(s) {
		digit := strings.IndexByte(digits, s[i])
		must(digit >= 0)
		n = n<<4 | rune(digit)
	}
	return n
}

// next takes a mark, if it stands there, and tells whether it did.
func (r *reader) next(mark string) bool {
	rest, is := strings.CutPrefix(r.rest, mark)
	r.rest = rest
	return is
}

// take takes a mark that must stand there.
func (r *reader) take(mark string) { must(r.next(mark)) }

// until takes what stands ahead of the first one of these marks, one of which must follow.
func (r *reader) until(marks string) string {
	at := strings.IndexAny(r.rest, marks)
	must(at >= 0)
	ahead := r.rest[:at]
	r.rest = r.rest[at:]
	return ahead
}
