package keys_test

import (
	"strings"
	"testing"

	"baton/keys"
)

// short are all texts of these bytes, up to so many of them.
func short(bytes string, most int) []string {
	l := []string{""}
	for from := 0; most > 0; most-- {
		end := len(l)
		for _, s := range l[from:end] {
			for i := range len(bytes) {
				l = append(l, s+bytes[i:i+1])
			}
		}
		from = end
	}
	return l
}

// P11.4: Read of a key tells its names.
func TestBack(t *testing.T) {
	check := func(a, b string) {
		t.Helper()
		checkRead(t, keys.Cluster(a, b), a, b, true)
		checkRead(t, keys.Tenant(a), a, "", true)
	}
	for _, a := range names() {
		for _, b := range names() {
			check(a, b)
		}
	}
	r := newRow()
	for range 20000 {
		check(r.name(), r.name())
	}
}

// P11.4: no two pairs of names have one key, and none a tenant's.
func TestUnlike(t *testing.T) {
	type whose struct{ tenant, cluster string }
	seen := map[string]whose{}
	add := func(key string, w whose) {
		t.Helper()
		if other, ok := seen[key]; ok && other != w {
			t.Errorf("%q is the key of %q and of %q", key, w, other)
		}
		if !keys.Key(key) {
			t.Errorf("%q, the key of %q, may be none", key, w)
		}
		seen[key] = w
	}
	all := append(short("ct.", 4)[1:], names()...)
	for _, a := range all {
		add(keys.Tenant(a), whose{a, ""})
		for _, b := range all {
			add(keys.Cluster(a, b), whose{a, b})
		}
	}
	single := map[string]bool{}
	for _, a := range all {
		single[a] = true
	}
	if want := len(single) * (len(single) + 1); len(seen) != want {
		t.Errorf("%d keys of %d", len(seen), want)
	}
}

// checkBetween holds a key against a prefix, and its End.
func checkBetween(t *testing.T, key, prefix string) {
	t.Helper()
	end := keys.End(prefix)
	between := key >= prefix && (end == "" || key < end)
	if got := keys.Begins(key, prefix); got != between {
		t.Errorf("Begins(%q, %q) = %t; its End is %q", key, prefix, got, end)
	}
	if between != strings.HasPrefix(key, prefix) {
		t.Errorf("%q is between %q and its End, %q: %t", key, prefix, end, between)
	}
}

// P11.5: keys of few bytes, by prefixes of few bytes: those at the ends of what may stand, and beside what may not.
func TestBetween(t *testing.T) {
	all := short("-./09AZ_az", 3)
	prefixes := short("-./09AZ_az", 2)
	for _, key := range all[1:] {
		for _, prefix := range prefixes {
			checkBetween(t, key, prefix)
		}
	}
}

// P11.5: any keys, by what they begin by, also a byte more or less.
func TestBetweenAny(t *testing.T) {
	r := newRow()
	for range 20000 {
		key := r.of(letters+"/", 1+r.below(maxKey))
		prefix := key[:r.below(len(key)+1)]
		checkBetween(t, key, prefix)
		checkBetween(t, prefix+r.of(letters+"/", r.below(maxKey-len(prefix)+1)), prefix)
		if prefix != "" {
			checkBetween(t, key, prefix[:len(prefix)-1]+r.of(letters+"/", 1))
			checkBetween(t, prefix[:len(prefix)-1]+r.of(letters+"/", 1), prefix)
			checkBetween(t, prefix[:len(prefix)-1], prefix)
		}
		checkBetween(t, key, r.of(letters+"/", r.below(maxKey+1)))
	}
	longest := many("z", maxKey)
	checkBetween(t, longest, longest)
	checkBetween(t, longest[1:], longest)
	checkBetween(t, longest[1:]+"y", longest)
	for n := range maxKey + 1 {
		checkBetween(t, longest, longest[:n])
		checkBetween(t, longest[:n], longest)
	}
}

// P11.3: what End tells is the least one: each text that is not below the prefix, and is below End, begins by the prefix.
func TestEndLeast(t *testing.T) {
	r := newRow()
	for range 20000 {
		prefix := r.of(letters+"/", 1+r.below(4))
		end := keys.End(prefix)
		if plain := plainEnd(prefix); end != plain || end <= prefix {
			t.Fatalf("End(%q) = %q; want %q", prefix, end, plain)
		}
		for _, s := range []string{prefix + "\xFF", prefix + many("\xFF", 1+r.below(maxKey)), prefix + many("z", maxKey-len(prefix)), prefix + r.text()} {
			if s >= end {
				t.Errorf("%q begins by %q, and is not below %q", s, prefix, end)
			}
		}
		if s := r.text(); s >= prefix && s < end && !keys.Begins(s, prefix) {
			t.Errorf("%q is between %q and %q", s, prefix, end)
		}
	}
}

// P11.6: of the keys of clusters those of a tenant, and they alone, begin by its Clusters, also where a tenant's name begins by
// another one's; no tenant's record does.
func TestClusters(t *testing.T) {
	all := append(short("a-.", 3)[1:], names()...)
	for _, a := range all {
		begin := keys.Clusters(a)
		if begin == "" || !keys.Prefix(begin) {
			t.Errorf("Clusters(%q) = %q", a, begin)
		}
		for _, other := range all {
			for _, b := range []string{"a", "-", "a-a", "aa", ".", many("z", maxName)} {
				checkBegins(t, keys.Cluster(other, b), begin, other == a)
			}
			checkBegins(t, keys.Tenant(other), begin, false)
		}
	}
}

// P11.6: a tenant of any name, and one whose name goes on.
func TestClustersAny(t *testing.T) {
	r := newRow()
	for range 20000 {
		a := r.of(letters, 1+r.below(maxName-1))
		longer := a + r.of(letters, 1+r.below(maxName-len(a)))
		for _, b := range []string{r.name(), longer[len(a):], a} {
			checkBegins(t, keys.Cluster(a, b), keys.Clusters(a), true)
			checkBegins(t, keys.Cluster(longer, b), keys.Clusters(longer), true)
			checkBegins(t, keys.Cluster(longer, b), keys.Clusters(a), false)
			checkBegins(t, keys.Cluster(a, b), keys.Clusters(longer), false)
		}
	}
}

// P11.7: a text may be a key, or a prefix, just if each of its bytes may alone, and it is not too long (nor, a key, empty); so
// it does not matter in which row its bytes stand. Keys are prefixes, names are keys.
func TestByteByByte(t *testing.T) {
	r := newRow()
	for range 20000 {
		s := r.text()
		each := true
		for i := range len(s) {
			each = each && keys.Key(s[i:i+1])
			if keys.Key(s[i:i+1]) != keys.Prefix(s[i:i+1]) {
				t.Errorf("%q may be one of both alone", s[i])
			}
		}
		key, prefix := keys.Key(s), keys.Prefix(s)
		if want := each && len(s) <= maxKey; prefix != want || key != (want && s != "") {
			t.Errorf("Key(%q) = %t, Prefix = %t; byte by byte: %t", s, key, prefix, each)
		}
		if key && !prefix || keys.Name(s) && !key {
			t.Errorf("%q: a name: %t, a key: %t, a prefix: %t", s, keys.Name(s), key, prefix)
		}
		turned := []byte(s)
		for i := range turned {
			j := r.below(i + 1)
			turned[i], turned[j] = turned[j], turned[i]
		}
		checkKey(t, string(turned), key)
		checkPrefix(t, string(turned), prefix)
	}
}

// P11.7: each piece of a key that is not empty is a key; a key said twice is one, if it is not too long.
func TestPieces(t *testing.T) {
	for _, key := range told() {
		for from := range len(key) {
			for to := from + 1; to <= len(key); to++ {
				checkKey(t, key[from:to], true)
				checkPrefix(t, key[from:to], true)
			}
			checkPrefix(t, key[from:from], true)
		}
		twice := key + key
		checkKey(t, twice, len(twice) <= maxKey)
		checkPrefix(t, twice, len(twice) <= maxKey)
	}
}

// R1: no call panics, or fails to end, and what may not be told is empty, or no.
func TestWhatever(t *testing.T) {
	list := []string{"", "\x00", "\xFF", "é", "\xC3", "/", many("\xFF", 1<<20), many("a", 1<<20), many("/", 1<<20), "c/" + many("a", 1<<20) + "/a", "t/" + many("a", 1<<20)}
	for _, a := range list {
		checkName(t, a, false)
		checkKey(t, a, a == "/")
		checkPrefix(t, a, a == "/" || a == "")
		checkRead(t, a, "", "", false)
		checkClusters(t, a, "")
		checkTenant(t, a, "")
		checkEnd(t, a, plainEnd(a))
		for _, b := range list {
			checkCluster(t, a, b, "")
			checkBegins(t, a, b, strings.HasPrefix(a, b))
		}
	}
}
