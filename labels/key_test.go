package labels_test

import (
	"slices"
	"strings"
	"testing"

	"baton/api"
	"baton/labels"
)

// P5.2: name by name, the name and the value as texts, whatever labels.
func TestKey(t *testing.T) {
	checkKey(t, list("a", "b"), "\x01a\x01b")
	checkKey(t, list("job", "api", "zone", "é"), "\x03job\x03api\x04zone\x02\xC3\xA9")
	checkKey(t, nil, "")
	checkKey(t, []api.Label{}, "")
	checkKey(t, list("", ""), "\x00\x00")
	checkKey(t, list("b", "\xFF", "", "x", "b", ""), "\x01b\x01\xFF\x00\x01x\x01b\x00")
	long := strings.Repeat("x", 300)
	checkKey(t, list(long, long+long), "\xAC\x02"+long+"\xD8\x04"+long+long)
	for _, l := range wrongLabels() {
		checkKey(t, l, plainKey(l))
	}
	for count := range 20 {
		checkKey(t, many(count), plainKey(many(count)))
	}
}

// P5.2, P5.4: Of of Key are the labels, with the most that may be, too.
func TestOf(t *testing.T) {
	checkOf(t, "\x01a\x01b", list("a", "b"), api.OK)
	checkOf(t, "\x03job\x03api\x04zone\x02\xC3\xA9", list("job", "api", "zone", "é"), api.OK)
	most := list(strings.Repeat("a", 64), strings.Repeat("\U0010FFFF", 64))
	checkOf(t, plainKey(most), most, api.OK)
	checkOf(t, plainKey(many(16)), many(16), api.OK)
	r := newRow()
	for range 3000 {
		l := r.labels()
		checkKey(t, l, plainKey(l))
		checkOf(t, labels.Key(l), l, api.OK)
	}
	for _, r := range ends() {
		l := list("a", strings.Repeat(string(r), 64), "b", string(r))
		checkOf(t, labels.Key(l), l, api.OK)
	}
}

// The table of errors: the key of labels that may not be, if none of its texts is too long.
func TestOfWrong(t *testing.T) {
	for _, l := range wrongLabels() {
		e := api.ErrForm
		if slices.ContainsFunc(l, func(x api.Label) bool { return len(x.Name) > 64 }) {
			e = api.ErrTooLarge
		}
		checkOf(t, labels.Key(l), nil, e)
	}
	for _, s := range broken() {
		checkOf(t, labels.Key(list("a", s)), nil, api.ErrForm)
	}
	for _, r := range wrongRunes() {
		checkOf(t, labels.Key(list("a", string(r))), nil, api.ErrForm)
	}
	checkOf(t, "", nil, api.ErrForm)
	checkOf(t, "\x00\x00", nil, api.ErrForm)
	checkOf(t, "\x01a\x00", nil, api.ErrForm)
	checkOf(t, "\x00\x01a", nil, api.ErrForm)
}

// Of: a name of 64 bytes at most, a value of 256, counted as bits counts them: it is looked first whether it may be so long,
// and then whether it is there.
func TestOfLengths(t *testing.T) {
	a, x := strings.Repeat("a", 65), strings.Repeat("x", 257)
	checkOf(t, text(a[:64])+text("x"), list(a[:64], "x"), api.OK)
	checkOf(t, text(a)+text("x"), nil, api.ErrTooLarge)
	checkOf(t, text(a[:64])+text(x[:65]), nil, api.ErrForm)
	checkOf(t, text(a[:64])+text(x[:256]), nil, api.ErrForm)
	checkOf(t, text(a[:64])+text(x), nil, api.ErrTooLarge)
	checkOf(t, "\x41", nil, api.ErrTooLarge)
	checkOf(t, "\x40", nil, api.ErrShort)
	checkOf(t, "\x01a\x81\x02", nil, api.ErrTooLarge)
	checkOf(t, "\x01a\x80\x02", nil, api.ErrShort)
	for _, n := range []uint64{65, 128, 256, 257, 1 << 31, 1 << 32, 1<<63 - 1, 1 << 63, 1<<64 - 1} {
		checkOf(t, varint(n)+a, nil, api.ErrTooLarge)
		if n > 256 {
			checkOf(t, "\x01a"+varint(n)+x, nil, api.ErrTooLarge)
		}
	}
	for _, n := range []uint64{2, 63, 64} {
		checkOf(t, varint(n)+"a", nil, api.ErrShort)
		checkOf(t, "\x01a"+varint(n)+"x", nil, api.ErrShort)
	}
	nine := strings.Repeat("\xFF", 9)
	for _, ahead := range []string{"", "\x01a", "\x01a\x01x", "\x00\x00"} {
		checkOf(t, ahead+nine, nil, api.ErrShort)
		checkOf(t, ahead+nine+"\x01", nil, api.ErrTooLarge)
		checkOf(t, ahead+nine+"\x02", nil, api.ErrForm)
		checkOf(t, ahead+nine+"\xFF", nil, api.ErrForm)
		checkOf(t, ahead+"\x80", nil, api.ErrShort)
	}
}

// R2: the first text that is wrong tells the error, also ahead of labels that may not be.
func TestOfOrder(t *testing.T) {
	long := text(strings.Repeat("a", 65))
	wrongs := []string{"\x00\x00", "\x01a\x00", "\x019\x01x", "\x01b\x01x\x01a\x01x", strings.Repeat("\x01a\x01x", 17), strings.Repeat("\x00\x00", 1000)}
	for _, wrong := range wrongs {
		checkOf(t, wrong, nil, api.ErrForm)
		checkOf(t, wrong+long, nil, api.ErrTooLarge)
		checkOf(t, wrong+"\x05", nil, api.ErrShort)
		checkOf(t, wrong+"\x01a", nil, api.ErrShort)
		checkOf(t, wrong+"\x01a"+text(strings.Repeat("x", 257)), nil, api.ErrTooLarge)
		checkOf(t, wrong+long+"\x05", nil, api.ErrTooLarge)
		checkOf(t, wrong+"\x01a\x05x", nil, api.ErrShort)
		checkOf(t, long+wrong, nil, api.ErrTooLarge)
	}
	checkOf(t, "\x01a"+text(strings.Repeat("x", 257))+long, nil, api.ErrTooLarge)
	checkOf(t, "\x41"+strings.Repeat("\xFF", 10), nil, api.ErrTooLarge)
	checkOf(t, strings.Repeat("\xFF", 10)+"\x41", nil, api.ErrForm)
}

// P5.2: lengths in more bytes than must be are read as the same ones.
func TestOfLonger(t *testing.T) {
	for size := 1; size <= 10; size++ {
		checkOf(t, longer(1, size)+"a\x01b", list("a", "b"), api.OK)
		checkOf(t, "\x01a"+longer(1, size)+"b", list("a", "b"), api.OK)
		checkOf(t, longer(1, size)+"a"+longer(1, size)+"b", list("a", "b"), api.OK)
		checkOf(t, "\x01a\x01b"+longer(1, size)+"b"+longer(2, size)+"é", list("a", "b", "b", "é"), api.OK)
		checkOf(t, longer(65, size), nil, api.ErrTooLarge)
		checkOf(t, longer(64, size), nil, api.ErrShort)
		checkOf(t, longer(0, size)+"\x01b", nil, api.ErrForm)
	}
}

// A key that is cut short at any place is wrong, but between two labels; and with a byte more, of any kind.
func TestOfCut(t *testing.T) {
	r := newRow()
	for range 200 {
		l := r.labels()
		key := labels.Key(l)
		ends := map[int]int{} // where a label begins: how many there are ahead of it
		for count := range l {
			ends[len(plainKey(l[:count]))] = count
		}
		for at := range len(key) {
			count, is := ends[at]
			switch {
			case at == 0:
				checkOf(t, "", nil, api.ErrForm)
			case is:
				checkOf(t, key[:at], l[:count], api.OK)
			default:
				checkOf(t, key[:at], nil, api.ErrShort)
			}
		}
		for b := range 256 {
			e := api.ErrShort
			if b > 64 && b < 128 {
				e = api.ErrTooLarge
			}
			checkOf(t, key+string([]byte{byte(b)}), nil, e)
		}
	}
}

// P5.2: keys with some bytes turned, as a plain one of the test's own has them.
func TestOfAny(t *testing.T) {
	r := newRow()
	for range 50000 {
		b := []byte(labels.Key(r.labels()[:1]))
		for range 1 + r.below(3) {
			at := r.below(len(b))
			switch r.below(3) {
			case 0:
				b[at] = byte(r.next() >> 40)
			case 1:
				b = slices.Insert(b, at, byte(r.next()>>40))
			default:
				b[at] = byte(r.below(4))
			}
		}
		l, e := plainOf(string(b))
		checkOf(t, string(b), l, e)
	}
}

// P5.6: unlike lists have unlike keys.
func TestKeysUnlike(t *testing.T) {
	lists := append(wrongLabels()[1:], nil, list("a", "b"), list("ab", ""), list("", "ab"), list("a", "b", "", ""), list("", "", "a", "b"), list("a", "", "b", ""), list("", "a", "", "b"),
		list("a", "\x01b"), list("a\x01b", ""), list("a", "\x01b\x01c"), list("a", "", "b", "c"), list("a", "b", "c", "d"), list("a", "b", "d", "c"), list("b", "a"), list("a", "b\x01c\x01d"), list("a\x01b\x01c", "d"), list("b", "", "a", ""))
	for i, a := range lists {
		for k, b := range lists {
			if (labels.Key(a) == labels.Key(b)) != (i == k) {
				t.Errorf("the keys of %s and %s", tell(a), tell(b))
			}
		}
	}
}

// P5.6: of those that may be, none begins by another one's, but for more labels.
func TestKeysBegin(t *testing.T) {
	r := newRow()
	var lists [][]api.Label
	for range 60 {
		l := r.labels()
		lists = append(lists, l, l[:1+r.below(len(l))], list(l[0].Name, l[0].Value[:1]+"x"), list(l[0].Name[:1], l[0].Value))
	}
	lists = slices.DeleteFunc(lists, func(l []api.Label) bool { return !plainMay(l) })
	for _, a := range lists {
		for _, b := range lists {
			isMore := len(a) >= len(b) && equal(a[:len(b)], b)
			if strings.HasPrefix(labels.Key(a), labels.Key(b)) != isMore {
				t.Errorf("the key of %s, and that of %s as its begin", tell(a), tell(b))
			}
		}
	}
}

// R1: of a key of many labels no more is kept than tells that they are too many.
func TestOfMany(t *testing.T) {
	key := strings.Repeat("\x01a\x01x", 1<<18)
	checkOf(t, key, nil, api.ErrForm)
	checkOf(t, key+"\x01", nil, api.ErrShort)
	if allocs := testing.AllocsPerRun(1, func() { labels.Of(key) }); allocs > 100 {
		t.Errorf("%v allocations", allocs)
	}
}
