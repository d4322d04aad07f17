package labels

import (
	"strconv"
	"strings"

	"baton/api"
)

// Show are labels, shown, if they may be.
func Show(l []api.Label) (string, api.Errno) {
	if !May(l) {
		return "", api.ErrForm
	}
	var b strings.Builder
	ahead := "{"
	for _, x := range l {
		b.WriteString(ahead + x.Name + `="`)
		showValue(&b, x.Value)
		b.WriteString(`"`)
		ahead = ","
	}
	b.WriteString("}")
	return b.String(), api.OK
}

// showValue puts a value behind what is shown, rune by rune: what is shown is ASCII alone.
func showValue(b *strings.Builder, value string) {
	for _, r := range value {
		switch {
		case r == '\\' || r == '"':
			b.WriteString(`\` + string(r))
		case r > '~':
			b.WriteString(`\u{` + strconv.FormatInt(int64(r), 16) + `}`)
		default:
			b.WriteRune(r)
		}
	}
}
