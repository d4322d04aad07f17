package keys_test

import (
	"regexp"
	"strings"
	"testing"

	"baton/keys"
)

// The limits and the bytes, written out once more, so that the package is not held against itself.
const (
	maxName = 24
	maxKey  = 64
	letters = "abcdefghijklmnopqrstuvwxyzABCDEFGHIJKLMNOPQRSTUVWXYZ0123456789-_."
)

// row is a fixed row of numbers without a plain rule.
type row uint64

func newRow() *row {
	r := row(88172645463325252)
	return &r
}

func (r *row) next() uint64 {
	*r ^= *r << 13
	*r ^= *r >> 7
	*r ^= *r << 17
	return uint64(*r)
}

// below is a number from 0 on, below end.
func (r *row) below(end int) int { return int(r.next() >> 33 % uint64(end)) }

// of is a text of so many bytes out of others.
func (r *row) of(bytes string, n int) string {
	b := make([]byte, n)
	for i := range b {
		b[i] = bytes[r.below(len(bytes))]
	}
	return string(b)
}

// name is one that may be.
func (r *row) name() string { return r.of(letters, 1+r.below(maxName)) }

// text is any, often one that is nearly a key.
func (r *row) text() string {
	switch r.below(4) {
	case 0:
		return r.of("ct/a", r.below(8))
	case 1:
		return r.of(letters+"/", r.below(maxKey+4))
	case 2:
		return r.of("ct", 1) + "/" + r.of(letters+"/", r.below(2*maxName+4))
	}
	b := make([]byte, r.below(maxKey+4))
	for i := range b {
		b[i] = byte(r.next())
	}
	return string(b)
}

var (
	plainName    = regexp.MustCompile(`^[-a-zA-Z0-9_.]{1,24}$`)
	plainPrefix  = regexp.MustCompile(`^[-a-zA-Z0-9_./]{0,64}$`)
	plainCluster = regexp.MustCompile(`^c/([-a-zA-Z0-9_.]{1,24})/([-a-zA-Z0-9_.]{1,24})$`)
	plainTenant  = regexp.MustCompile(`^t/([-a-zA-Z0-9_.]{1,24})$`)
)

// plainKey is what Key is to answer.
func plainKey(s string) bool { return s != "" && plainPrefix.MatchString(s) }

// plainRead is what Read is to answer.
func plainRead(key string) (tenant, cluster string, is bool) {
	if m := plainCluster.FindStringSubmatch(key); m != nil {
		return m[1], m[2], true
	}
	if m := plainTenant.FindStringSubmatch(key); m != nil {
		return m[1], "", true
	}
	return "", "", false
}

// plainEnd is what End is to answer.
func plainEnd(prefix string) string {
	if !plainKey(prefix) {
		return ""
	}
	b := []byte(prefix)
	b[len(b)-1]++
	return string(b)
}

// many are so many times a text.
func many(s string, n int) string { return strings.Repeat(s, n) }

// names are ones that may be: at the ends of their length, of each byte, and such as begin by others.
func names() []string {
	l := []string{many("a", maxName-1), many("z", maxName), many(".", maxName), letters[:maxName], "c", "t", "cc", "c-t", "a.b", "..", "a-", "ab", "abc", "a1", "-a", "_"}
	for i := range len(letters) {
		l = append(l, letters[i:i+1])
	}
	return l
}

// noNames are texts that are none: each for one reason, and some for more.
func noNames() []string {
	l := []string{"", many("a", maxName+1), many("a", maxName+2), many("a", maxKey), many("a", 1<<16), many("/", maxName+1), many("\x00", maxName+1)}
	l = append(l, "/", "//", "a/", "/a", "a/b", "c/a", "a b", " ", "a\n", "\na", "a\x00", "é", "aé", "\xC3", "a\xFF", "\u2028", "ａ")
	for b := range 256 {
		if c := string([]byte{byte(b)}); !strings.Contains(letters, c) {
			l = append(l, c, "a"+c, c+"a", "a"+c+"a", many("a", maxName-1)+c, c+many("a", maxName-1))
		}
	}
	return l
}

func checkName(t *testing.T, s string, want bool) {
	t.Helper()
	if got := keys.Name(s); got != want {
		t.Errorf("Name(%.80q) (%d bytes) = %t", s, len(s), got)
	}
}

func checkKey(t *testing.T, s string, want bool) {
	t.Helper()
	if got := keys.Key(s); got != want {
		t.Errorf("Key(%.80q) (%d bytes) = %t", s, len(s), got)
	}
}

func checkPrefix(t *testing.T, s string, want bool) {
	t.Helper()
	if got := keys.Prefix(s); got != want {
		t.Errorf("Prefix(%.80q) (%d bytes) = %t", s, len(s), got)
	}
}

func checkCluster(t *testing.T, tenant, cluster, want string) {
	t.Helper()
	if got := keys.Cluster(tenant, cluster); got != want {
		t.Errorf("Cluster(%.80q, %.80q) = %.80q; want %q", tenant, cluster, got, want)
	}
}

func checkClusters(t *testing.T, tenant, want string) {
	t.Helper()
	if got := keys.Clusters(tenant); got != want {
		t.Errorf("Clusters(%.80q) = %.80q; want %q", tenant, got, want)
	}
}

func checkTenant(t *testing.T, tenant, want string) {
	t.Helper()
	if got := keys.Tenant(tenant); got != want {
		t.Errorf("Tenant(%.80q) = %.80q; want %q", tenant, got, want)
	}
}

func checkRead(t *testing.T, key, tenant, cluster string, is bool) {
	t.Helper()
	if a, b, got := keys.Read(key); a != tenant || b != cluster || got != is {
		t.Errorf("Read(%.80q) (%d bytes) = %.80q, %.80q, %t; want %q, %q, %t", key, len(key), a, b, got, tenant, cluster, is)
	}
}

func checkBegins(t *testing.T, key, prefix string, want bool) {
	t.Helper()
	if got := keys.Begins(key, prefix); got != want {
		t.Errorf("Begins(%.80q, %.80q) = %t", key, prefix, got)
	}
}

func checkEnd(t *testing.T, prefix, want string) {
	t.Helper()
	if got := keys.End(prefix); got != want {
		t.Errorf("End(%.80q) (%d bytes) = %.80q; want %.80q", prefix, len(prefix), got, want)
	}
}
