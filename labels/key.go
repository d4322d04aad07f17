package labels

import (
	"strings"

	"baton/api"
	"baton/bits"
)

// Key is the key of labels, also of those that may not be.
func Key(l []api.Label) string {
	var b []byte
	for _, x := range l {
		b = bits.PutText(b, x.Name)
		b = bits.PutText(b, x.Value)
	}
	return string(b)
}

// Of are the labels of a key, if they may be.
func Of(key string) ([]api.Label, api.Errno) {
	l, e := texts(bits.New(key))
	if e != api.OK {
		return nil, e
	}
	if !May(l) {
		return nil, api.ErrForm
	}
	return l, api.OK
}

// texts are the labels that a reader comes to. It goes on to the end, since a text that is wrong counts ahead of labels that
// may not be; but it keeps one more than may be at most, which says as much as all of them.
func texts(r *bits.Reader) ([]api.Label, api.Errno) {
	var l []api.Label
	for r.Err() == api.OK && r.Left() > 0 {
		name := r.Text(api.MaxLabel)
		value := r.Text(maxBytes)
		if len(l) <= api.MaxLabels {
			l = append(l, cloned(name, value))
		}
	}
	return l, r.Err()
}

// cloned is a label that doesn't hold the text of which its name and its value are pieces.
func cloned(name, value string) api.Label {
	return api.Label{Name: strings.Clone(name), Value: strings.Clone(value)}
}
