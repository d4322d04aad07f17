package snappy_test

import (
	"math"
	"strings"
	"testing"

	"baton/api"
	"baton/snappy"
)

// match is what the chapter says, all places one by one, from the farthest on: the nearest of those with as many counts.
func match(s string, at int) (off, n int) {
	for place := max(0, at-65535); place < at; place++ {
		count := 0
		for count < 64 && at+count < len(s) && s[place+count] == s[at+count] {
			count++
		}
		if count > 0 && count >= n {
			off, n = at-place, count
		}
	}
	return off, n
}

// packed are the parts that the chapter says, by match.
func packed(s string) []snappy.Part {
	var l []snappy.Part
	literal := ""
	for at := 0; at < len(s); {
		off, n := match(s, at)
		if n < 4 {
			literal += s[at : at+1]
			at++
			continue
		}
		if literal != "" {
			l = append(l, lit(literal))
			literal = ""
		}
		l = append(l, again(off, n))
		at += n
	}
	if literal != "" {
		l = append(l, lit(literal))
	}
	return l
}

// texts are of all kinds: of few and of many kinds of bytes, with runs, periods, and pieces that come again.
func texts() []string {
	r := newRow()
	list := []string{"", "a", "aa", "abcabcabc", unlike(700), strings.Repeat("http_requests_total{job=\"api\"}", 30), "\xFF\x80é日本語é日本語"}
	for range 60 {
		list = append(list, r.text(r.upTo(700), r.upTo(4)), r.text(r.upTo(300), r.upTo(26)))
		period := r.text(r.upTo(90), 26)
		list = append(list, strings.Repeat(period, 1+300/len(period)))
		piece, runs := r.text(r.upTo(100), 26), ""
		for range r.upTo(12) {
			runs += strings.Repeat(r.text(1, 3), r.upTo(90)) + piece[:r.upTo(len(piece))]
		}
		list = append(list, runs)
	}
	return list
}

// P3.3: at each place of each text, and out of it.
func TestMatch(t *testing.T) {
	for _, s := range texts() {
		for at := range s {
			off, n := match(s, at)
			checkMatch(t, s, at, off, n)
		}
		for _, at := range []int{math.MinInt, -1, len(s), len(s) + 1, math.MaxInt} {
			checkMatch(t, s, at, 0, 0)
		}
	}
	checkMatch(t, "abc", 0, 0, 0)
	checkMatch(t, "abc", 2, 0, 0)
}

// P3.3: fewer bytes than a copy has are a match, too.
func TestMatchShort(t *testing.T) {
	checkMatch(t, "aa", 1, 1, 1)
	checkMatch(t, "aba", 2, 2, 1)
	checkMatch(t, "abxab", 3, 3, 2)
	checkMatch(t, "abcxabcy", 4, 4, 3)
	checkMatch(t, "abcdxabcd", 5, 5, 4)
}

// P3.3: 64 at most, into itself too; up to the end.
func TestMatchMost(t *testing.T) {
	for _, n := range []int{1, 2, 3, 4, 5, 63, 64, 65, 66, 130} {
		checkMatch(t, strings.Repeat("a", n+1), 1, 1, min(n, 64))
		checkMatch(t, strings.Repeat("ab", n)+"c", 2, 2*min(n-1, 1), min(2*n-2, 64))
		s := unlike(n)
		checkMatch(t, s+"!"+s+"?", n+1, n+1, min(n, 64))
	}
}

// P3.3: of those with as many bytes the nearest; of another one with more bytes, that one, how far away it may be.
func TestMatchNearest(t *testing.T) {
	checkMatch(t, "abcd1abcd2abcd3", 10, 5, 4)
	checkMatch(t, "abcde1abcd2abcde3", 11, 11, 5)
	checkMatch(t, "abcd1abcde2abcde3", 11, 6, 5)
	checkMatch(t, "abcde1abcde2abcd3abcde4", 17, 11, 5)
	checkMatch(t, "ab1ab2ab3", 6, 3, 2)
	checkMatch(t, "abc1ab2ab3abc4", 10, 10, 3)
	long := unlike(70)
	checkMatch(t, long+"1"+long+"2"+long, 142, 71, 64) // the bytes behind 64 do not count
	checkMatch(t, long+"1"+long[:64]+"2"+long, 136, 65, 64)
	checkMatch(t, long+"1"+long[:63]+"2"+long, 135, 135, 64)
	checkPack(t, "abcd1abcd2abcd3", []snappy.Part{lit("abcd1"), again(5, 4), lit("2"), again(5, 4), lit("3")})
	checkPack(t, "abcde1abcd2abcde3", []snappy.Part{lit("abcde1"), again(6, 4), lit("2"), again(11, 5), lit("3")})
	checkPack(t, long+"1"+long[:63]+"2"+long, []snappy.Part{lit(long + "1"), again(71, 63), lit("2"), again(135, 64), again(135, 6)})
}

// P3.3: 65535 away at most.
func TestMatchFar(t *testing.T) {
	between := unlike(70000)
	for _, off := range []int{65534, 65535} {
		checkMatch(t, "wxyz"+between[:off-4]+"wxyz", off, off, 4)
		checkMatch(t, "..wxyz"+between[:off-4]+"wxyz", off+2, off, 4)
	}
	for _, off := range []int{65536, 65537, 70000} {
		checkMatch(t, "wxyz"+between[:off-4]+"wxyz", off, 0, 0)
		checkMatch(t, "wxyz"+between[:off-8]+"wx--wxyz", off, 4, 2)
		checkMatch(t, "wxyz"+between[:off-4]+"wxyz", off+1, 0, 0)
	}
	checkMatch(t, "wxyz1"+between[:60000]+"wxyz"+between[60000:65526]+"wxyz1", 65535, 65535, 5)
	checkMatch(t, "wxyz1"+between[:60000]+"wxyz"+between[60000:65527]+"wxyz1", 65536, 5531, 4)
}

// P3.3: the farthest copy that a text of MaxRaw bytes can have.
func TestPackFar(t *testing.T) {
	between := unlike(65528)
	checkPack(t, "wxyz"+between+"wxyz", []snappy.Part{lit("wxyz" + between), again(65532, 4)})
	checkEncode(t, "wxyz"+between+"wxyz", length(65536)+longLit("wxyz"+between, 2)+"\x0E\xFC\xFF", api.OK)
}

// P3.3: Pack at each text, and what its bytes are.
func TestPack(t *testing.T) {
	for _, s := range texts() {
		l := packed(s)
		checkPack(t, s, l)
		block, e := snappy.Write(l)
		checkEncode(t, s, block, e)
	}
	checkPack(t, "", nil)
	for b := range 256 {
		s := string([]byte{byte(b)})
		checkPack(t, s, []snappy.Part{lit(s)})
		checkEncode(t, s, "\x01\x00"+s, api.OK)
	}
}

// P3.3: one byte again and again: the first one is a literal, and what is left behind whole copies, if it is short.
func TestPackRuns(t *testing.T) {
	for n := 1; n <= 300; n++ {
		s := strings.Repeat("a", n)
		want := []snappy.Part{lit("a")}
		rest := n - 1
		for ; rest >= 4; rest -= min(rest, 64) {
			want = append(want, again(1, min(rest, 64)))
		}
		if n < 5 {
			want = []snappy.Part{lit(s)}
		} else if rest > 0 {
			want = append(want, lit(s[:rest]))
		}
		checkPack(t, s, want)
	}
	runs := map[int]string{
		3: "\x03\x08aaa", 4: "\x04\x0Caaaa", 5: "\x05\x00a\x01\x01", 11: "\x0B\x00a\x19\x01", 12: "\x0C\x00a\x1D\x01", 13: "\x0D\x00a\x2E\x01\x00",
		60: "\x3C\x00a\xEA\x01\x00", 64: "\x40\x00a\xFA\x01\x00", 65: "\x41\x00a\xFE\x01\x00", 66: "\x42\x00a\xFE\x01\x00\x00a", 68: "\x44\x00a\xFE\x01\x00\x08aaa", 69: "\x45\x00a\xFE\x01\x00\x01\x01",
	}
	for n, block := range runs {
		checkEncode(t, strings.Repeat("a", n), block, api.OK)
	}
}

// P3.3: literals at each length at which that of their own length changes.
func TestPackLiterals(t *testing.T) {
	for _, n := range []int{1, 59, 60, 61, 62, 255, 256, 257, 258, 65535, 65536} {
		s := unlike(n)
		checkPack(t, s, []snappy.Part{lit(s)})
		if n+8 <= api.MaxRaw {
			checkPack(t, "...."+s+"....", []snappy.Part{lit("...." + s), again(n+4, 4)})
		}
	}
}

// largeTexts have MaxRaw bytes, or just fewer.
func largeTexts() []string {
	r := newRow()
	list := []string{unlike(65536), strings.Repeat("a", 65536), strings.Repeat("ab", 32768), worst(65536), worst(65535)}
	for _, kinds := range []int{2, 3, 26, 128} {
		list = append(list, r.text(65536, kinds))
	}
	return list
}

// worst is a text of literals whose length takes one byte more, and of the shortest copies from afar, by turns.
func worst(length int) string {
	fresh := unlike(length + 3000)
	s := fresh[:3000]
	for at := 3000; len(s) < length; at += 61 {
		s += fresh[at:at+61] + fresh[at%2000+1:][:4]
	}
	return s[:length]
}

// P3.4: Decode of Encode is the text.
func TestBack(t *testing.T) {
	for _, s := range append(texts(), largeTexts()...) {
		block, e := snappy.Encode(s)
		if e != api.OK {
			t.Fatalf("Encode(%.40q (%d bytes)): %d", s, len(s), e)
		}
		checkDecode(t, block, len(s), s, api.OK)
		checkDecode(t, block, len(s)-1, "", api.ErrTooLarge)
		checkSize(t, block, uint64(len(s)), api.OK)
	}
}

// P3.7: a packed text is not much longer than it.
func TestShort(t *testing.T) {
	list := append(texts(), largeTexts()...)
	for n := range 400 {
		list = append(list, unlike(n))
	}
	for n := 2000; n < 8000; n += 7 {
		list = append(list, worst(n))
	}
	for _, s := range list {
		block, _ := snappy.Encode(s)
		if more := len(block) - len(s) - len(length(len(s))); more > len(s)/30+4 {
			t.Errorf("Encode(%.40q (%d bytes)) has %d bytes more than its length's", s, len(s), more)
		}
	}
	s := worst(65536)
	if block, _ := snappy.Encode(s); len(block) < len(s)+len(s)/80 {
		t.Errorf("at its worst it has %d bytes: that asks nothing", len(block))
	}
}

// P3.9: copies have 4 bytes or more, and what they say stands there; no two literals stand side by side.
func TestEachCopy(t *testing.T) {
	for _, s := range append(texts(), largeTexts()...) {
		l, e := snappy.Pack(s)
		if e != api.OK || said(l) != s {
			t.Fatalf("Pack(%.40q (%d bytes)) = %s, %d", s, len(s), tell(l), e)
		}
		at := 0
		for i, p := range l {
			if !p.Copy && i > 0 && !l[i-1].Copy {
				t.Errorf("%.40q: two literals side by side at %d", s, at)
			}
			if p.Copy && (p.Len < 4 || p.Off < 1 || p.Off > at || s[at:at+p.Len] != said([]snappy.Part{lit(s[:at]), p})[at:]) {
				t.Errorf("%.40q: at %d a copy of %d by %d", s, at, p.Len, p.Off)
			}
			at += len(p.Text) + p.Len
		}
	}
}

// The row of Pack and Encode: MaxRaw bytes may be, one more may not.
func TestPackMost(t *testing.T) {
	for _, s := range []string{unlike(65537), strings.Repeat("a", 65537), strings.Repeat("a", 1<<20)} {
		if l, e := snappy.Pack(s); l != nil || e != api.ErrTooLarge {
			t.Errorf("Pack of %d bytes = %s, %d", len(s), tell(l), e)
		}
		checkEncode(t, s, "", api.ErrTooLarge)
		if l, e := snappy.Pack(s[:65536]); said(l) != s[:65536] || e != api.OK {
			t.Errorf("Pack of 65536 bytes = %s, %d", tell(l), e)
		}
	}
}
