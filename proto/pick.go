package proto

import "baton/api"

// As is a value as one of that type.
func As[T Value](v Value) (T, bool) {
	if x, ok := v.(T); ok {
		return x, true
	}
	var none T
	return none, false
}

// All are all values of the fields of a number, in their row.
func All[T Value](l []Field, num int) ([]T, api.Errno) {
	var all []T
	for _, f := range l {
		if f.Num != num {
			continue
		}
		x, ok := As[T](f.Val)
		if !ok {
			return nil, api.ErrForm
		}
		all = append(all, x)
	}
	return all, api.OK
}

// Last is the last one of the values of the fields of a number. It goes by all of them: one of another type is an error,
// wherever it stands.
func Last[T Value](l []Field, num int) (T, bool, api.Errno) {
	var none T
	all, e := All[T](l, num)
	if e != api.OK || len(all) == 0 {
		return none, false, e
	}
	return all[len(all)-1], true, api.OK
}

// Others are the fields of other numbers than these.
func Others(l []Field, known ...int) []Field {
	isKnown := make(map[int]struct{}, len(known)) // so that many numbers, of many fields, take no longer than a few
	for _, num := range known {
		isKnown[num] = struct{}{}
	}
	var others []Field
	for _, f := range l {
		if _, ok := isKnown[f.Num]; !ok {
			others = append(others, f)
		}
	}
	return others
}
