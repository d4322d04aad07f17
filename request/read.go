package request

import (
	"iter"

	"baton/api"
	"baton/proto"
)

// part is what a message is read as: how says what its fields come to.
func part[T any](message string, how func(fields []proto.Field) (T, api.Errno)) (T, api.Errno) {
	fields, e := proto.Read(message)
	if e != api.OK {
		var none T
		return none, e
	}
	return how(fields)
}

// parts are the parts of one kind, one by one, each read of its own text; the first one that is wrong is the last one told.
func parts[T any](texts []proto.Text, how func(fields []proto.Field) (T, api.Errno)) iter.Seq2[T, api.Errno] {
	return func(yield func(T, api.Errno) bool) {
		for _, text := range texts {
			x, e := part(string(text), how)
			if !yield(x, e) || e != api.OK {
				return
			}
		}
	}
}

// list are all that are told one by one, or the error that is told at last.
func list[T any](all iter.Seq2[T, api.Errno]) ([]T, api.Errno) {
	var l []T
	for x, e := range all {
		if e != api.OK {
			return nil, e
		}
		l = append(l, x)
	}
	return l, api.OK
}

// readSeries looks at the fields of both numbers ahead of any label, and at all labels ahead of any sample: what is wrong
// with them counts in this row.
func readSeries(fields []proto.Field) (api.Series, api.Errno) {
	labelTexts, e := proto.All[proto.Text](fields, first)
	if e != api.OK {
		return api.Series{}, e
	}
	sampleTexts, e := proto.All[proto.Text](fields, second)
	if e != api.OK {
		return api.Series{}, e
	}
	labels, e := list(parts(labelTexts, pair(func(name, value proto.Text) api.Label {
		return api.Label{Name: string(name), Value: string(value)}
	})))
	if e != api.OK {
		return api.Series{}, e
	}
	samples, e := list(parts(sampleTexts, pair(func(bits proto.Eight, time proto.Varint) api.Sample {
		return api.Sample{Time: int64(time), Bits: uint64(bits)}
	})))
	if e != api.OK {
		return api.Series{}, e
	}
	return api.Series{Labels: labels, Samples: samples}, api.OK
}

// pair is how a part is read that has a field of each number, each once: of several ones the last one, of none what is
// empty, or 0. made says what both come to.
func pair[A, B proto.Value, T any](made func(A, B) T) func(fields []proto.Field) (T, api.Errno) {
	return func(fields []proto.Field) (T, api.Errno) {
		var none T
		a, _, e := proto.Last[A](fields, first)
		if e != api.OK {
			return none, e
		}
		b, _, e := proto.Last[B](fields, second)
		if e != api.OK {
			return none, e
		}
		return made(a, b), api.OK
	}
}
