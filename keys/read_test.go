package keys_test

import (
	"strings"
	"testing"

	"baton/keys"
)

// told are the keys of names, as P11.2 has them.
func told() []string {
	var l []string
	for _, a := range names() {
		l = append(l, "t/"+a)
		for _, b := range []string{a, "a", "t", "c", ".", many("z", maxName)} {
			l = append(l, "c/"+a+"/"+b, "c/"+b+"/"+a)
		}
	}
	return l
}

// P11.2: the names of keys.
func TestRead(t *testing.T) {
	for _, a := range names() {
		checkRead(t, "t/"+a, a, "", true)
		for _, b := range names() {
			checkRead(t, "c/"+a+"/"+b, a, b, true)
		}
	}
	longest := many("a", maxName)
	checkRead(t, "c/"+longest+"/"+longest, longest, longest, true)
	checkRead(t, "c/c/c", "c", "c", true)
	checkRead(t, "c/t/t", "t", "t", true)
	checkRead(t, "t/t", "t", "", true)
	checkRead(t, "t/c", "c", "", true)
}

// P11.2: cut short at every byte: a name that is cut short is one still, what ends ahead of it is no key of these.
func TestReadCutShort(t *testing.T) {
	for _, key := range told() {
		parts := strings.Split(key, "/")
		begin := len(key) - len(parts[len(parts)-1])
		for n := range len(key) {
			switch {
			case n <= begin:
				checkRead(t, key[:n], "", "", false)
			case len(parts) == 2:
				checkRead(t, key[:n], key[begin:n], "", true)
			default:
				checkRead(t, key[:n], parts[1], key[begin:n], true)
			}
		}
	}
}

// P11.2: with a byte more: behind, ahead, and within.
func TestReadLonger(t *testing.T) {
	for b := range 256 {
		c := string([]byte{byte(b)})
		is := strings.Contains(letters, c)
		for _, key := range told() {
			tenant, cluster, _ := plainRead(key)
			last := &cluster
			if cluster == "" {
				last = &tenant
			}
			*last += c
			if is && len(*last) <= maxName {
				checkRead(t, key+c, tenant, cluster, true)
			} else {
				checkRead(t, key+c, "", "", false)
			}
			checkRead(t, c+key, "", "", false)
			checkRead(t, key[:1]+c+key[1:], "", "", false)
		}
	}
}

// P11.2: any other first byte.
func TestReadFirst(t *testing.T) {
	for b := range 256 {
		c := string([]byte{byte(b)})
		if c != "t" {
			checkRead(t, c+"/a", "", "", false)
			checkRead(t, c+"/"+many("a", maxName), "", "", false)
		}
		if c != "c" {
			checkRead(t, c+"/a/b", "", "", false)
			checkRead(t, c+"/"+many("a", maxName)+"/b", "", "", false)
		}
		checkRead(t, c, "", "", false)
		checkRead(t, c+"/", "", "", false)
		checkRead(t, c+"//", "", "", false)
		checkRead(t, c+"//a", "", "", false)
		checkRead(t, c+"a", "", "", false)
		if c != "/" {
			checkRead(t, "c"+c+"a/b", "", "", false)
			checkRead(t, "t"+c+"a", "", "", false)
		}
	}
}

// P11.2: a / too many, or too few, wherever it stands.
func TestReadSlashes(t *testing.T) {
	for _, s := range []string{
		"", "/", "//", "///", "c", "t", "c/", "t/", "c//", "t//", "c///", "ca", "ta", "ca/b", "c/a", "c/ab", "c/a/", "c//a", "c//a/b", "c/a//b", "c/a/b/", "c/a/b//", "c/a/b/c",
		"/c/a/b", "//c/a/b", "t/a/", "t//a", "t/a//", "t/a/b", "t/a/b/c", "/t/a", "//t/a", "a", "a/b", "a/b/c", "/a/b", "C/a/b", "T/a", "cc/a/b", "tt/a", "ct/a/b", "tc/a", "c/a\x00/b",
		"c.a/b", "c-a.b", "c a b", "c\\a\\b", "c/a\\b", "c/a b", "c/a/b ", " c/a/b", "c /a/b", "t/a ", " t/a", "c/a/\xFF", "c/\xC3\xA9/b", "t/\xC3\xA9", "t/a\n", "c/a/b\n",
	} {
		checkRead(t, s, "", "", false)
	}
	for _, key := range told() {
		for at := range len(key) + 1 {
			longer := key[:at] + "/" + key[at:]
			tenant, cluster, is := plainRead(longer)
			checkRead(t, longer, tenant, cluster, is)
			if at < len(key) && key[at] == '/' {
				shorter := key[:at] + key[at+1:]
				checkRead(t, shorter, "", "", false)
			}
		}
	}
}

// P11.2: parts that are no names.
func TestReadWrong(t *testing.T) {
	for _, a := range noNames() {
		checkRead(t, "t/"+a, "", "", false)
		if tenant, cluster, is := plainRead("c/" + a); is { // a / within it may part two names
			checkRead(t, "c/"+a, tenant, cluster, true)
		} else {
			checkRead(t, "c/"+a, "", "", false)
		}
		for _, b := range []string{"a", "t", many("z", maxName)} {
			checkRead(t, "c/"+a+"/"+b, "", "", false)
			checkRead(t, "c/"+b+"/"+a, "", "", false)
		}
		checkRead(t, "c/"+a+"/"+a, "", "", false)
	}
	checkRead(t, "c/"+many("a", maxName+1)+"/b", "", "", false)
	checkRead(t, "c/b/"+many("a", maxName+1), "", "", false)
	checkRead(t, "t/"+many("a", maxName+1), "", "", false)
	checkRead(t, many("c/", 1<<16), "", "", false)
	checkRead(t, "c"+many("/", 1<<16), "", "", false)
}

// P11.2: any texts.
func TestReadAny(t *testing.T) {
	r := newRow()
	var count [2]int
	for range 50000 {
		s := r.text()
		tenant, cluster, is := plainRead(s)
		checkRead(t, s, tenant, cluster, is)
		if is {
			count[1]++
		} else {
			count[0]++
		}
	}
	if count[0] < 1000 || count[1] < 1000 {
		t.Error("too few of a kind:", count)
	}
}

// P11.2: what Read tells to be a key's names has that key again.
func TestReadPut(t *testing.T) {
	r := newRow()
	for range 50000 {
		s := r.text()
		tenant, cluster, is := keys.Read(s)
		switch {
		case !is:
		case cluster == "":
			checkTenant(t, tenant, s)
		default:
			checkCluster(t, tenant, cluster, s)
		}
	}
}
