package labels_test

import (
	"fmt"
	"slices"
	"strings"
	"testing"
	"unicode/utf8"

	"baton/api"
	"baton/labels"
)

// P5.1: a name is 1 to 64 bytes of a to z, A to Z, 0 to 9 and _, the first one no digit.
func TestMayName(t *testing.T) {
	for _, s := range []string{"a", "Z", "_", "__name__", "replica", "a9", "_9", "A_z_0", strings.Repeat("a", 63), strings.Repeat("z", 64), "_" + strings.Repeat("9", 63)} {
		checkName(t, s, true)
	}
	for _, s := range []string{"", "9a", "0", "99", "a-b", "a.b", "a b", " a", "a ", "a\x00", "\x00", "é", "aé", "a\xFF", "ａ", "a:b", strings.Repeat("a", 65), strings.Repeat("a", 1<<20), "9" + strings.Repeat("a", 63), strings.Repeat("a", 63) + "-"} {
		checkName(t, s, false)
	}
	for count := range 130 {
		checkName(t, strings.Repeat("_", count), count >= 1 && count <= 64)
	}
}

// P5.1: each byte, as a name's first one, as a later one, and as its last one.
func TestMayNameBytes(t *testing.T) {
	const letters = "abcdefghijklmnopqrstuvwxyzABCDEFGHIJKLMNOPQRSTUVWXYZ_"
	const all = letters + "0123456789"
	for i := range 256 {
		b := byte(i)
		one := string([]byte{b})
		isLetter, isAny := strings.IndexByte(letters, b) >= 0, strings.IndexByte(all, b) >= 0
		checkName(t, one, isLetter)
		checkName(t, one+"a", isLetter)
		checkName(t, one+strings.Repeat("a", 63), isLetter)
		checkName(t, "a"+one, isAny)
		checkName(t, "a"+one+"a", isAny)
		checkName(t, strings.Repeat("a", 63)+one, isAny)
		checkName(t, strings.Repeat("a", 64)+one, false)
	}
}

// P5.1: a value is 1 to 64 runes, of however many bytes.
func TestMayValueCount(t *testing.T) {
	for _, r := range ends() {
		one := string(r)
		for _, count := range []int{1, 2, 16, 17, 32, 63, 64} {
			checkValue(t, strings.Repeat(one, count), true)
			checkValue(t, strings.Repeat(one, count-1)+"é", true)
			checkValue(t, strings.Repeat(one, count-1)+"\U0001F600", true)
		}
		for _, count := range []int{65, 66, 128, 256, 257, 1000} {
			checkValue(t, strings.Repeat(one, count), false)
			checkValue(t, strings.Repeat(one, count-1)+"é", false)
		}
	}
	checkValue(t, "", false)
	checkValue(t, strings.Repeat("x", 1<<20), false)
	checkValue(t, strings.Repeat("\U0010FFFF", 1<<18), false)
}

// P5.1: each rune that is an end, and those that may not be, wherever they stand.
func TestMayValueRunes(t *testing.T) {
	check := func(r rune, want bool) {
		t.Helper()
		one := string(r)
		for _, s := range []string{one, one + "x", "x" + one, "é" + one + "日", strings.Repeat("x", 63) + one, one + strings.Repeat("\U0001F600", 63)} {
			checkValue(t, s, want)
		}
	}
	for _, r := range ends() {
		check(r, true)
	}
	for _, r := range wrongRunes() {
		check(r, false)
	}
	for r := range rune(0x3000) {
		checkValue(t, string(r), r >= 0x20 && r != 0x7F)
	}
}

// P5.1: what is no valid UTF-8 may not be, though FFFD as it is may.
func TestMayValueBroken(t *testing.T) {
	for _, s := range broken() {
		for _, whole := range []string{s, s + "x", "x" + s, "é" + s + "é", "\uFFFD" + s, s + "\uFFFD", strings.Repeat("x", 60) + s} {
			checkValue(t, whole, false)
		}
	}
	for i := 0x80; i < 0x100; i++ {
		checkValue(t, string([]byte{byte(i)}), false)
		checkValue(t, string([]byte{'x', byte(i), 'x'}), false)
	}
	checkValue(t, "\uFFFD", true)
	checkValue(t, strings.Repeat("\uFFFD", 64), true)
}

// P5.1: any two bytes, as what the library says of them.
func TestMayValuePairs(t *testing.T) {
	for i := range 1 << 16 {
		s := string([]byte{byte(i >> 8), byte(i)})
		if got, want := labels.MayValue(s), utf8.ValidString(s) && plainValue.MatchString(s); got != want {
			t.Errorf("MayValue(%q) = %t", s, got)
		}
	}
}

// P5.1: labels are 1 to 16, their names rising strictly, byte by byte.
func TestMay(t *testing.T) {
	for count := range 40 {
		checkMay(t, many(count), count >= 1 && count <= 16)
	}
	for _, l := range [][]api.Label{
		list("a", "x"), list("job", "api", "zone", "a"), list("a", "x", "ab", "x"), list("a", "x", "a0", "x"), list("A", "x", "a", "x"),
		list("Z", "x", "_", "x", "a", "x"), list("a0", "x", "a1", "x"), list("a", "x", "b", "x", "c", "x"), list("_", "x", "__", "x"), list("a", "b", "b", "a"),
	} {
		checkMay(t, l, true)
		slices.Reverse(l)
		checkMay(t, l, len(l) == 1)
	}
	for _, l := range wrongLabels() {
		checkMay(t, l, false)
	}
}

// P5.1: what is wrong is seen wherever it stands.
func TestMayPlaces(t *testing.T) {
	for count := 1; count <= 16; count++ {
		for at := range count {
			for _, wrong := range []api.Label{{Name: many(count)[at].Name}, {Value: "x"}, {Name: many(count)[at].Name + "-", Value: "x"}, {Name: many(count)[at].Name, Value: "\x7F"}} {
				l := many(count)
				l[at] = wrong
				checkMay(t, l, false)
			}
			l := many(count)
			l[at].Name = l[(at+1)%count].Name
			checkMay(t, l, count == 1)
		}
	}
}

// P5.1: any labels, as a plain one of the test's own has them.
func TestMayAny(t *testing.T) {
	r := newRow()
	for range 20000 {
		l := r.labels()
		checkMay(t, l, true)
		for range 1 + r.below(2) {
			l[r.below(len(l))] = l[r.below(len(l))]
			l[r.below(len(l))].Value += r.value()
			l[r.below(len(l))].Name += r.name()
		}
		checkMay(t, l, plainMay(l))
	}
}

// P5.1: the same are those of the same names and values, in their row.
func TestSame(t *testing.T) {
	lists := append(wrongLabels()[1:], nil, list("a", "x"), list("a", "y"), list("b", "x"), list("a", ""), list("", "a"), list("x", "a"),
		list("a", "x", "b", "y"), list("b", "y", "a", "x"), list("a", "y", "b", "x"), list("a", "x", "b", "x"), list("ab", "x"), list("a", "bx"), list("a", "X"), list("A", "x"),
		list("a", "xb", "", "y"), list("a", "x\x01b", "", ""), list("a", "\uFFFD"), list("a", "\xFF"), list("a", "e\u0301"), list("a", "\u00E9"))
	for i, a := range lists {
		for k, b := range lists {
			checkSame(t, slices.Clone(a), slices.Clone(b), equal(a, b))
			if equal(a, b) != (fmt.Sprintf("%x", a) == fmt.Sprintf("%x", b)) {
				t.Fatalf("lists %d, %d", i, k)
			}
		}
	}
	checkSame(t, nil, nil, true)
	checkSame(t, nil, []api.Label{}, true)
	checkSame(t, list("a", "x"), many(2)[:1], false)
	for count := 1; count < 20; count++ {
		checkSame(t, many(count), many(count), true)
		checkSame(t, many(count), many(count-1), false)
		for at := range count {
			name, value := many(count), many(count)
			name[at].Name += "x"
			value[at].Value += "x"
			checkSame(t, many(count), name, false)
			checkSame(t, many(count), value, false)
			checkSame(t, name, value, false)
		}
	}
}

// P5.2: the value of the first label of a name.
func TestGet(t *testing.T) {
	l := list("job", "api", "zone", "a", "job", "other", "", "none", "9", "", "zone", "", "\xFF", "\x00")
	checkGet(t, l, "job", "api", true)
	checkGet(t, l, "zone", "a", true)
	checkGet(t, l, "", "none", true)
	checkGet(t, l, "9", "", true)
	checkGet(t, l, "\xFF", "\x00", true)
	checkGet(t, l[1:], "job", "other", true)
	checkGet(t, l[2:], "zone", "", true)
	for _, name := range []string{"jo", "jobs", "Job", "api", "other", "\x00", "\uFFFD", strings.Repeat("a", 1000)} {
		checkGet(t, l, name, "", false)
	}
	checkGet(t, l[:2], "", "", false)
	for _, name := range []string{"", "a"} {
		checkGet(t, nil, name, "", false)
		checkGet(t, []api.Label{}, name, "", false)
	}
	for at := range 16 {
		checkGet(t, many(16), fmt.Sprintf("a%04d", at), "x", true)
	}
}

// P5.2, P5.8: all of a name is taken away, and nothing else.
func TestWithout(t *testing.T) {
	l := list("job", "api", "zone", "a", "job", "other", "", "none", "job", "api", "9", "")
	checkWithout(t, l, "job", list("zone", "a", "", "none", "9", ""))
	checkWithout(t, l, "zone", list("job", "api", "job", "other", "", "none", "job", "api", "9", ""))
	checkWithout(t, l, "", list("job", "api", "zone", "a", "job", "other", "job", "api", "9", ""))
	for _, name := range []string{"jo", "jobs", "JOB", "api", "other", "\xFF", "\uFFFD", strings.Repeat("a", 1000)} {
		checkWithout(t, l, name, l)
	}
	checkWithout(t, list("a", "x"), "a", nil)
	checkWithout(t, list("a", "x", "a", "y", "a", "x"), "a", nil)
	for _, name := range []string{"", "a"} {
		checkWithout(t, nil, name, nil)
		checkWithout(t, []api.Label{}, name, nil)
	}
}

// P5.8: of labels that may be, those that are left may be, if there are any.
func TestWithoutMay(t *testing.T) {
	r := newRow()
	for range 3000 {
		l := r.labels()
		at := r.below(len(l))
		left := labels.Without(l, l[at].Name)
		checkWithout(t, l, l[at].Name, slices.Delete(slices.Clone(l), at, at+1))
		checkMay(t, left, len(l) > 1)
		checkGet(t, left, l[at].Name, "", false)
		checkWithout(t, left, l[at].Name, left)
	}
}

// P5.7: of two values put together it is their runes that count.
func TestTogether(t *testing.T) {
	for _, a := range ends() {
		for _, b := range ends() {
			for _, first := range []int{1, 32, 63, 64} {
				for _, second := range []int{1, 2, 32, 33, 64} {
					checkValue(t, strings.Repeat(string(a), first)+strings.Repeat(string(b), second), first+second <= 64)
				}
			}
		}
	}
	r := newRow()
	for range 3000 {
		a, b := r.value(), r.value()
		checkValue(t, a+b, len([]rune(a))+len([]rune(b)) <= 64)
	}
}

// P5.7: a value's bytes cut within a rune may not be.
func TestCutWithin(t *testing.T) {
	r := newRow()
	for range 1000 {
		s := r.value()
		for at := range len(s) {
			checkValue(t, s[:at], at > 0 && utf8.RuneStart(s[at]))
			checkValue(t, s[at:], utf8.RuneStart(s[at]))
		}
	}
}

// R1: what is handed in stays, and what is told shares no list with it, nor with what is told another time.
func TestShareNothing(t *testing.T) {
	r := newRow()
	for range 200 {
		l := r.labels()
		was := slices.Clone(l)
		shown, _ := labels.Show(l)
		key := labels.Key(l)
		tell := []func() []api.Label{
			func() []api.Label { return labels.Without(l, "none") },
			func() []api.Label { return labels.Without(l, l[0].Name) },
			func() []api.Label { m, _ := labels.Parse(shown); return m },
			func() []api.Label { m, _ := labels.Of(key); return m },
		}
		for i, call := range tell {
			first, second := call(), call()
			want := slices.Clone(second)
			for at := range first {
				first[at] = api.Label{Name: "other", Value: "other"}
			}
			_ = append(first, api.Label{Name: "more", Value: "more"})
			if !equal(l, was) || !equal(second, want) || !equal(call(), want) {
				t.Errorf("call %d of %v shares what it told", i, was)
			}
		}
		labels.Get(l, l[0].Name)
		labels.May(l)
		labels.Same(l, l)
		if !equal(l, was) {
			t.Errorf("%v was changed to %v", was, l)
		}
	}
}
