package request

import (
	"baton/api"
	"baton/proto"
)

// Encode is the request of these series.
func Encode(l []api.Series) string { return write(putParts(nil, first, l, seriesFields)) }

// write is the message that is these fields. No error can come: their numbers, and their types, are all ones that may be.
func write(fields []proto.Field) string {
	s, _ := proto.Write(fields)
	return s
}

// putParts is fields, and behind them one for each part, also for one of nothing; how says what fields a part has itself.
func putParts[T any](fields []proto.Field, num int, parts []T, how func(T) []proto.Field) []proto.Field {
	for _, x := range parts {
		fields = append(fields, proto.Field{Num: num, Val: proto.Text(write(how(x)))})
	}
	return fields
}

func seriesFields(x api.Series) []proto.Field {
	return putParts(putParts(nil, first, x.Labels, labelFields), second, x.Samples, sampleFields)
}

func labelFields(x api.Label) []proto.Field {
	return putValue(putValue(nil, first, proto.Text(x.Name)), second, proto.Text(x.Value))
}

func sampleFields(x api.Sample) []proto.Field {
	return putValue(putValue(nil, first, proto.Eight(x.Bits)), second, proto.Varint(x.Time))
}

// value is any of the types of a field that is left out where it says nothing.
type value interface {
	proto.Varint | proto.Eight | proto.Text
	proto.Value
}

// putValue is fields, and one behind them, unless its value is empty, or 0: what is read of none is just that.
func putValue[T value](fields []proto.Field, num int, v T) []proto.Field {
	var none T
	if v == none {
		return fields
	}
	return append(fields, proto.Field{Num: num, Val: v})
}
