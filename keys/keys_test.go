package keys_test

import (
	"strings"
	"testing"

	"baton/api"
)

// The chapter's examples.
func TestExamples(t *testing.T) {
	checkCluster(t, "acme", "east-1", "c/acme/east-1")
	checkTenant(t, "acme", "t/acme")
	checkRead(t, "c/acme/east-1", "acme", "east-1", true)
	checkRead(t, "c/acme", "", "", false)
	checkRead(t, "t/a/b", "", "", false)
	checkEnd(t, "c/a", "c/b")
	checkEnd(t, "", "")
	checkName(t, "a/b", false)
	checkKey(t, "a/b", true)
}

// The limits are those of package api.
func TestLimits(t *testing.T) {
	if maxName != api.MaxName || maxKey != api.MaxKey {
		t.Error(api.MaxName, api.MaxKey)
	}
}

// P11.1: each byte alone, and ahead of, within, and behind others.
func TestBytes(t *testing.T) {
	for b := range 256 {
		c := string([]byte{byte(b)})
		inName := strings.Contains(letters, c)
		inKey := inName || c == "/"
		for _, s := range []string{c, c + c, c + "a", "a" + c, "a" + c + "a", c + "aa", "aa" + c, many("a", maxName-1) + c, c + many("a", maxName-1), many(c, maxName)} {
			checkName(t, s, inName)
			checkKey(t, s, inKey)
			checkPrefix(t, s, inKey)
		}
		for _, s := range []string{many("a", maxKey-1) + c, c + many("a", maxKey-1), many("a", maxKey/2) + c + many("/", maxKey/2-1), many(c, maxKey)} {
			checkName(t, s, false)
			checkKey(t, s, inKey)
			checkPrefix(t, s, inKey)
		}
	}
}

// P11.1: each length, of bytes of names, with a /, and of others.
func TestLengths(t *testing.T) {
	for n := range 3 * maxKey {
		for _, c := range []string{"a", "Z", "0", "-", "_", "."} {
			s := many(c, n)
			checkName(t, s, n >= 1 && n <= 24)
			checkKey(t, s, n >= 1 && n <= 64)
			checkPrefix(t, s, n <= 64)
		}
		for _, s := range []string{many("a", n) + "/", "/" + many("a", n), many("/", n+1)} {
			checkName(t, s, false)
			checkKey(t, s, n+1 <= 64)
			checkPrefix(t, s, n+1 <= 64)
		}
		for _, s := range []string{many("a", n) + " ", "\x00" + many("a", n), many("/", n) + "\xFF"} {
			checkName(t, s, false)
			checkKey(t, s, false)
			checkPrefix(t, s, false)
		}
	}
	for _, c := range []string{"a", "/", "\x00", "é"} {
		s := many(c, 1<<20)
		checkName(t, s, false)
		checkKey(t, s, false)
		checkPrefix(t, s, false)
	}
}

// P11.1: runes are not bytes: what looks like a letter, or is more than one byte, may not stand.
func TestRunes(t *testing.T) {
	for _, r := range []rune{0x80, 0xAA, 0xE9, 0x100 + 'a', 0x100 + '/', 0x660, 0x2010, 0x2024, 0x2044, 0xFF0D, 0xFF0E, 0xFF0F, 0xFF10, 0xFF21, 0xFF41, 0xFFFD, 0x10000 + 'a', 0x10FFFF} {
		for _, s := range []string{string(r), "a" + string(r), string(r) + "a", "a/" + string(r)} {
			checkName(t, s, false)
			checkKey(t, s, false)
			checkPrefix(t, s, false)
		}
	}
}

// P11.1: any texts.
func TestAny(t *testing.T) {
	r := newRow()
	var count [3]int
	for range 50000 {
		s := r.text()
		name, key, prefix := plainName.MatchString(s), plainKey(s), plainPrefix.MatchString(s)
		checkName(t, s, name)
		checkKey(t, s, key)
		checkPrefix(t, s, prefix)
		for i, is := range []bool{name, key, !prefix} {
			if is {
				count[i]++
			}
		}
	}
	for _, n := range count {
		if n < 1000 {
			t.Error("too few of a kind:", count)
		}
	}
}

// P11.2: names at their ends.
func TestPut(t *testing.T) {
	for _, a := range names() {
		checkClusters(t, a, "c/"+a+"/")
		checkTenant(t, a, "t/"+a)
		for _, b := range names() {
			checkCluster(t, a, b, "c/"+a+"/"+b)
		}
	}
}

// P11.2: each part that is no name, beside one that is, and beside another that is none.
func TestPutWrong(t *testing.T) {
	wrong := noNames()
	for i, a := range wrong {
		checkClusters(t, a, "")
		checkTenant(t, a, "")
		for _, b := range []string{"a", "t", many("z", maxName), "a.b"} {
			checkCluster(t, a, b, "")
			checkCluster(t, b, a, "")
		}
		checkCluster(t, a, a, "")
		checkCluster(t, a, wrong[(i+1)%len(wrong)], "")
		checkCluster(t, a, "", "")
		checkCluster(t, "", a, "")
	}
}

// P11.3: one text ahead of another.
func TestBegins(t *testing.T) {
	for _, s := range []string{"", "a", "/", "c/a/b", "\x00", "\xFF", "é", many("a", maxKey), many("a", maxKey+1), many("ab", 1<<16)} {
		checkBegins(t, s, s, true)
		checkBegins(t, s, "", true)
		checkBegins(t, "", s, s == "")
		checkBegins(t, "b"+s, "a"+s, false)
		checkBegins(t, s+"b", s+"a", false)
		for _, more := range []string{"a", "/", "\x00", "\xFF", s + "a"} {
			checkBegins(t, s+more, s, true)
			checkBegins(t, s, s+more, false)
			checkBegins(t, s+"b"+more, s+"a", false)
		}
	}
	for _, x := range [][2]string{{"c/a/b", "C/a/b"}, {"c/a/b", "c/a/B"}, {"c/a/b", "/a/b"}, {"c/a/b", "c/b"}, {"xc/a", "c/a"}, {"a", "aa"}, {"\xC3\xA9", "\xC3\xA8"}, {"a", "a\x00"}} {
		checkBegins(t, x[0], x[1], false)
	}
	checkBegins(t, "\xC3\xA9", "\xC3", true)
	checkBegins(t, "c/team-1/x", "c/team", true)
	checkBegins(t, "c/team-1/x", "c/team/", false)
}

// P11.3: each piece of a text, at each place of it.
func TestBeginsPieces(t *testing.T) {
	const s = "c/aab/c/aab"
	for from := range len(s) + 1 {
		for to := from; to <= len(s); to++ {
			piece := s[from:to]
			want := len(piece) <= len(s) && s[:len(piece)] == piece
			checkBegins(t, s, piece, want)
			checkBegins(t, piece, s, piece == s)
		}
	}
}

// P11.3: each byte as the last one.
func TestEnd(t *testing.T) {
	for b := range 256 {
		c := string([]byte{byte(b)})
		next := string([]byte{byte(b + 1)})
		for _, ahead := range []string{"", "a", "/", "c/", "zz", "c/acme/", many("a", maxKey-2), many("z", maxKey-1)} {
			if plainKey(c) {
				checkEnd(t, ahead+c, ahead+next)
			} else {
				checkEnd(t, ahead+c, "")
			}
		}
	}
	for _, x := range [][2]string{{"z", "{"}, {"Z", "["}, {"9", ":"}, {"_", "`"}, {"-", "."}, {".", "/"}, {"/", "0"}, {"a", "b"}, {"zz", "z{"}, {"c/team-1/", "c/team-10"}} {
		checkEnd(t, x[0], x[1])
	}
}

// P11.3: prefixes as long as may be, longer ones, and texts that may be none.
func TestEndWrong(t *testing.T) {
	for n := 1; n < 3*maxKey; n++ {
		want := ""
		if n <= maxKey {
			want = many("a", n-1) + "b"
		}
		checkEnd(t, many("a", n), want)
	}
	for _, s := range []string{" ", "é", "a b", " a", "a ", "\x00", "\xFF", "a\xFF", "\xFFa", "a\x00b", "c/\xC3/a", many("a", maxKey-1) + "\xFF", many("\xFF", 1<<16), many("/", 1<<16)} {
		checkEnd(t, s, "")
	}
}
