package pledge_test

import (
	"crypto/hmac"
	"crypto/sha256"
	"strings"
	"testing"

	"chartulary/api"
	"chartulary/mill"
	"chartulary/pledge"
)

// plain is the hash of s, as Go's library has it.
func plain(s string) string {
	h := sha256.Sum256([]byte(s))
	return string(h[:])
}

// plainTag is the tag of s with a key, as Go's library has it.
func plainTag(key, s string) string {
	h := hmac.New(sha256.New, []byte(key))
	h.Write([]byte(s))
	return string(h.Sum(nil))
}

// short is the encoding of a string of 1 to 255 bytes, or of none.
func short(s string) string {
	if s == "" {
		return "\x00"
	}
	return "\x01" + string([]byte{byte(len(s))}) + s
}

// out is an output of 32 equal bytes.
func out(c string) string {
	return strings.Repeat(c, api.HashBytes)
}

// with is a mill with a table.
func with(t *testing.T, l ...mill.Entry) *mill.Mill {
	t.Helper()
	m, e := mill.With(l)
	if e != api.OK || m == nil {
		t.Fatalf("With(%+v) = %v, %v", l, m, e)
	}
	return m
}

// idle are mills that do not work: nil, and one that no function made.
func idle() map[string]*mill.Mill {
	return map[string]*mill.Mill{"nil": nil, "zero": {}}
}

// parts are strings that may be taken for the encodings of others.
func parts() []string {
	return []string{"", "a", "b", "ab", "\x00", "\x01", "\x01\x01a", "\x01\x01", "a\x00", "\x00\x00", strings.Repeat("p", 255)}
}

// Promise 6.1, with the chapter's first example.
func TestOf(t *testing.T) {
	long := strings.Repeat("v", 300)
	for _, c := range []struct{ id, name, salt, value, want string }{
		{"id", "n", "s", "v", "\x02\x01\x02id\x01\x01n\x01\x01s\x01\x01v"},
		{"", "", "", "", "\x02\x00\x00\x00\x00"},
		{"a", "", "", "", "\x02\x01\x01a\x00\x00\x00"},
		{"", "a", "", "", "\x02\x00\x01\x01a\x00\x00"},
		{"", "", "a", "", "\x02\x00\x00\x01\x01a\x00"},
		{"", "", "", "a", "\x02\x00\x00\x00\x01\x01a"},
		{"\x00", "\xff", "\x02", "\x01", "\x02\x01\x01\x00\x01\x01\xff\x01\x01\x02\x01\x01\x01"},
		{"not an ID", "n", "s", long, "\x02\x01\x09not an ID\x01\x01n\x01\x01s\x02\x01\x2c" + long},
		{long, long, long, long, "\x02" + strings.Repeat("\x02\x01\x2c"+long, 4)},
	} {
		if got := pledge.Of(mill.New(), c.id, c.name, c.salt, c.value); got != plain(c.want) {
			t.Errorf("Of(%.9q, %.9q, %.9q, %.9q) is not the hash of %.40q", c.id, c.name, c.salt, c.value, c.want)
		}
	}
}

// Promise 6.1, with the chapter's first example.
func TestTreeHashes(t *testing.T) {
	m := mill.New()
	for _, s := range append(parts(), "x", plain("x"), strings.Repeat("x", 1000)) {
		if got := pledge.Leaf(m, s); got != plain("\x00"+s) {
			t.Errorf("Leaf(%.20q) = %x", s, got)
		}
	}
	for _, c := range [][2]string{{"a", "b"}, {"b", "a"}, {"", ""}, {"a", ""}, {"", "a"}, {plain("a"), plain("b")}, {plain("a"), plain("a")}} {
		if got := pledge.Node(m, c[0], c[1]); got != plain("\x01"+c[0]+c[1]) {
			t.Errorf("Node(%q, %q) = %x", c[0], c[1], got)
		}
	}
	if got := pledge.None(m); got != plain("") {
		t.Errorf("None = %x", got)
	}
	if pledge.None(m) == pledge.Leaf(m, "") || pledge.Leaf(m, "ab") == pledge.Node(m, "a", "b") {
		t.Error("hashes of different kinds are equal")
	}
}

// Promise 6.1: each of the hashes is one call of mill.Sum, so that the mill notes it and its table counts.
func TestHashesAreTheMills(t *testing.T) {
	m := with(t,
		mill.Entry{Text: "\x02\x01\x02id\x01\x01n\x01\x01s\x01\x01v", Out: out("1")},
		mill.Entry{Text: "\x00x", Out: out("2")},
		mill.Entry{Text: "\x01ab", Out: out("3")},
		mill.Entry{Out: out("4")},
		mill.Entry{Tag: true, Text: "\x00x", Out: out("5")},
	)
	for i, got := range []string{pledge.Of(m, "id", "n", "s", "v"), pledge.Leaf(m, "x"), pledge.Node(m, "a", "b"), pledge.None(m)} {
		if want := out(string(rune('1' + i))); got != want {
			t.Errorf("hash %d = %q, want %q", i, got, want)
		}
	}
	if m.Sums() != 4 {
		t.Errorf("%d sums", m.Sums())
	}
}

// Promise 6.1.
func TestKey(t *testing.T) {
	for _, draw := range append(parts(), "draw", out("d"), strings.Repeat("d", 65)) {
		m := mill.New()
		if got := pledge.Key(m, draw); got != plainTag(draw, "key") || len(got) != api.KeyBytes {
			t.Errorf("Key(%.20q) = %x", draw, got)
		}
		if m.Sums() != 0 {
			t.Error("Key has hashed")
		}
	}
}

// Promise 6.1.
func TestSalt(t *testing.T) {
	for _, draw := range append(parts(), "draw", out("d"), strings.Repeat("d", 65)) {
		for _, name := range append(parts(), "name") {
			m := mill.New()
			if got := pledge.Salt(m, draw, name); got != plainTag(draw, "salt"+short(name))[:16] {
				t.Errorf("Salt(%.20q, %.20q) = %x", draw, name, got)
			}
			if m.Sums() != 0 {
				t.Error("Salt has hashed")
			}
		}
	}
	long := strings.Repeat("n", 256)
	if got := pledge.Salt(mill.New(), "d", long); got != plainTag("d", "salt\x02\x01\x00"+long)[:16] {
		t.Errorf("Salt of a long name = %x", got)
	}
}

// Promise 6.1: the table's tags count.
func TestSecretsAreTheMills(t *testing.T) {
	m := with(t,
		mill.Entry{Tag: true, Key: "draw", Text: "key", Out: out("k")},
		mill.Entry{Tag: true, Key: "draw", Text: "salt\x01\x01n", Out: "0123456789abcdef" + out("x")[16:]},
		mill.Entry{Text: "key", Out: out("y")},
	)
	if got := pledge.Key(m, "draw"); got != out("k") {
		t.Errorf("Key = %q", got)
	}
	if got := pledge.Salt(m, "draw", "n"); got != "0123456789abcdef" {
		t.Errorf("Salt = %q", got)
	}
	if pledge.Key(m, "drawn") == out("k") || pledge.Salt(m, "draw", "m") == "0123456789abcdef" {
		t.Error("other secrets are the table's too")
	}
}

// Promise 6.5: fields that differ anywhere have different pledges, since what is hashed differs.
func TestPledgesDiffer(t *testing.T) {
	m := mill.New()
	seen := map[string][4]string{}
	for _, id := range parts() {
		for _, name := range parts() {
			for _, salt := range parts() {
				for _, value := range parts() {
					p, f := pledge.Of(m, id, name, salt, value), [4]string{id, name, salt, value}
					if other, there := seen[p]; there {
						t.Fatalf("%.9q and %.9q have the same pledge", f, other)
					}
					seen[p] = f
				}
			}
		}
	}
	if a, b, ok := m.Twins(); ok {
		t.Errorf("collision of %q and %q", a, b)
	}
}

// Promise 6.5: a pledge is no hash of a leaf, of a node, or of no leaves.
func TestKindsDiffer(t *testing.T) {
	m := mill.New()
	seen := map[string]bool{pledge.None(m): true}
	n := 1
	for _, a := range parts() {
		seen[pledge.Leaf(m, a)] = true
		n++
		for _, b := range []string{plain("1"), plain("2")} {
			seen[pledge.Node(m, plain(a), b)] = true
			seen[pledge.Of(m, a, b, "", "")] = true
			seen[pledge.Of(m, "", "", a, b)] = true
			n += 3
		}
	}
	if len(seen) != n {
		t.Errorf("%d different hashes of %d", len(seen), n)
	}
}

// Promise 6.5: whoever has two fields with the same pledge has a collision.
func TestSamePledgeIsCollision(t *testing.T) {
	f := "\x02\x01\x02id\x01\x01n\x01\x01s\x01\x01v"
	for _, c := range []struct{ id, name, salt, value, text string }{
		{"other", "n", "s", "v", "\x02\x01\x05other\x01\x01n\x01\x01s\x01\x01v"},
		{"id", "m", "s", "v", "\x02\x01\x02id\x01\x01m\x01\x01s\x01\x01v"},
		{"id", "n", "t", "v", "\x02\x01\x02id\x01\x01n\x01\x01t\x01\x01v"},
		{"id", "n", "s", "w", "\x02\x01\x02id\x01\x01n\x01\x01s\x01\x01w"},
		{"i", "dn", "s", "v", "\x02\x01\x01i\x01\x02dn\x01\x01s\x01\x01v"},
	} {
		m := with(t, mill.Entry{Text: c.text, Out: plain(f)})
		if pledge.Of(m, "id", "n", "s", "v") != pledge.Of(m, c.id, c.name, c.salt, c.value) {
			t.Errorf("%q: the pledges differ", c.text)
		}
		if a, b, ok := m.Twins(); a != f || b != c.text || !ok {
			t.Errorf("%q: Twins = %q, %q, %v", c.text, a, b, ok)
		}
	}
}

// Promise 6.4, rule R1: a mill that does not work gives no hash and no secret.
func TestIdleMill(t *testing.T) {
	for what, m := range idle() {
		for _, s := range []string{"", "a", out("a")} {
			for i, got := range []string{
				pledge.Of(m, s, s, s, s), pledge.Leaf(m, s), pledge.Node(m, s, s), pledge.None(m),
				pledge.Key(m, s), pledge.Salt(m, s, s), pledge.Shut(m, s, s, s, s),
			} {
				if got != "" {
					t.Errorf("%s mill, function %d of %q = %q", what, i, s, got)
				}
			}
		}
	}
}
