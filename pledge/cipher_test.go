package pledge_test

import (
	"strings"
	"testing"

	"chartulary/api"
	"chartulary/mill"
	"chartulary/pledge"
)

const salt16 = "0123456789abcdef"

// plainVeil is s, encrypted by Go's library, for up to 256 tags.
func plainVeil(key, label, s string) string {
	stream := ""
	for i := 0; len(stream) < len(s); i++ {
		stream += plainTag(key, label+"\x00"+string([]byte{byte(i)}))
	}
	b := []byte(s)
	for i := range b {
		b[i] ^= stream[i]
	}
	return string(b)
}

// checkOpen checks what Open answers.
func checkOpen(t *testing.T, m *mill.Mill, key, name, cipher, salt, value string, ok bool) {
	t.Helper()
	if s, v, got := pledge.Open(m, key, name, cipher); s != salt || v != value || got != ok {
		t.Errorf("Open(%.9q, %.9q, %.40q) = %q, %.40q, %v, want %q, %.40q, %v", key, name, cipher, s, v, got, salt, value, ok)
	}
}

// checkKept checks what Kept answers, and that it leaves the slip as it is.
func checkKept(t *testing.T, what string, m *mill.Mill, key, id string, s api.Slip, salt, value string, ok bool) {
	t.Helper()
	if x, v, got := pledge.Kept(m, key, id, s); x != salt || v != value || got != ok {
		t.Errorf("%s: Kept = %q, %.40q, %v, want %q, %.40q, %v", what, x, v, got, salt, value, ok)
	}
}

// values are encodings of values, and other strings of many lengths.
func values() []string {
	return []string{"", "\x00", "v", "value", strings.Repeat("v", 15), salt16, strings.Repeat("v", 17), strings.Repeat("v", 208), strings.Repeat("long", 500), "\xff\x00\xfe"}
}

// Promise 6.2.
func TestShut(t *testing.T) {
	for _, key := range []string{"", "key", out("k"), strings.Repeat("k", 65)} {
		for _, name := range append(parts(), "name") {
			for _, salt := range []string{salt16, "", "short", salt16 + "longer"} {
				for _, value := range values() {
					m := mill.New()
					if got := pledge.Shut(m, key, name, salt, value); got != plainVeil(key, "field"+short(name), salt+value) {
						t.Fatalf("Shut(%.9q, %.9q, %q, %.40q) = %x", key, name, salt, value, got)
					}
					if m.Sums() != 0 {
						t.Fatal("Shut has hashed")
					}
				}
			}
		}
	}
	long := strings.Repeat("n", 256)
	if got := pledge.Shut(mill.New(), "k", long, salt16, "v"); got != plainVeil("k", "field\x02\x01\x00"+long, salt16+"v") {
		t.Errorf("Shut with a long name = %x", got)
	}
}

// Promises 6.2 and 6.5: what Shut made is opened again with the same key and name, and with no other.
func TestOpen(t *testing.T) {
	m := mill.New()
	for _, key := range []string{"", "key", out("k"), strings.Repeat("k", 65)} {
		for _, name := range parts() {
			for _, value := range values() {
				cipher := pledge.Shut(m, key, name, salt16, value)
				checkOpen(t, m, key, name, cipher, salt16, value, true)
				if s, v, ok := pledge.Open(m, key+"x", name, cipher); s == salt16 || len(s) != 16 || len(v) != len(value) || !ok {
					t.Fatalf("another key: Open = %q, %.40q, %v", s, v, ok)
				}
				if s, v, ok := pledge.Open(m, key, name+"x", cipher); s == salt16 || len(s) != 16 || len(v) != len(value) || !ok {
					t.Fatalf("another name: Open = %q, %.40q, %v", s, v, ok)
				}
			}
		}
	}
	if m.Sums() != 0 {
		t.Error("Shut or Open has hashed")
	}
}

// Promise 6.2: the salt is the first 16 bytes, whatever they are, and fewer are too few.
func TestOpenLengths(t *testing.T) {
	m := mill.New()
	for n := range 100 {
		cipher := strings.Repeat("c", n)
		if n < 16 {
			checkOpen(t, m, "key", "n", cipher, "", "", false)
			continue
		}
		s := plainVeil("key", "field\x01\x01n", cipher)
		checkOpen(t, m, "key", "n", cipher, s[:16], s[16:], true)
	}
	checkOpen(t, m, "key", "n", pledge.Shut(m, "key", "n", "short", "value"), "", "", false)
	checkOpen(t, m, "key", "n", pledge.Shut(m, "key", "n", "short", "long value.."), "shortlong value.", ".", true)
	checkOpen(t, m, "key", "n", pledge.Shut(m, "key", "n", salt16+"longer", "value"), salt16, "longervalue", true)
}

// Promise 6.2: the table's tags make the stream.
func TestCipherIsTheMills(t *testing.T) {
	m := with(t, mill.Entry{Tag: true, Key: "key", Text: "field\x01\x01n\x00\x00", Out: out("\x00")})
	if got := pledge.Shut(m, "key", "n", salt16, "value"); got != salt16+"value" {
		t.Errorf("Shut = %q", got)
	}
	checkOpen(t, m, "key", "n", salt16+"value", salt16, "value", true)
}

// Promise 6.3: a slip is what the other functions make of its field.
func TestSlip(t *testing.T) {
	for _, draw := range []string{"", "draw", out("d")} {
		for _, id := range []string{"", "id", "not an ID"} {
			for _, name := range parts() {
				for _, value := range values()[:8] {
					m := mill.New()
					salt := plainTag(draw, "salt"+short(name))[:16]
					want := api.Slip{
						Name:   name,
						Pledge: plain("\x02" + short(id) + short(name) + short(salt) + short(value)),
						Cipher: plainVeil(plainTag(draw, "key"), "field"+short(name), salt+value),
					}
					if got := pledge.Slip(m, draw, id, name, value); got != want {
						t.Fatalf("Slip(%.9q, %q, %.9q, %.9q) = %+v, want %+v", draw, id, name, value, got, want)
					}
					if m.Sums() != 1 {
						t.Fatalf("Slip has hashed %d strings", m.Sums())
					}
				}
			}
		}
	}
}

// Promises 6.3 and 6.5.
func TestKept(t *testing.T) {
	for _, draw := range []string{"", "draw", out("d")} {
		for _, id := range []string{"", "id", "not an ID"} {
			for _, name := range parts() {
				for _, value := range values() {
					m := mill.New()
					s := pledge.Slip(m, draw, id, name, value)
					checkKept(t, name, m, pledge.Key(m, draw), id, s, pledge.Salt(m, draw, name), value, true)
					if m.Sums() != 2 {
						t.Fatalf("Slip and Kept have hashed %d strings", m.Sums())
					}
				}
			}
		}
	}
}

// Promise 6.3, the chapter's second example.
func TestExample2(t *testing.T) {
	m := mill.New()
	s := pledge.Slip(m, "draw", "id", "n", "value")
	if len(s.Cipher) != 21 || len(s.Pledge) != 32 || s.Erased {
		t.Errorf("Slip = %+v", s)
	}
	checkKept(t, "the slip", m, pledge.Key(m, "draw"), "id", s, pledge.Salt(m, "draw", "n"), "value", true)
	checkKept(t, "another key", m, pledge.Key(m, "drawn"), "id", s, "", "", false)
	s.Erased = true
	checkKept(t, "erased", m, pledge.Key(m, "draw"), "id", s, "", "", false)
}

// Promise 6.3: what a slip contains has to match its pledge.
func TestKeptOfOthers(t *testing.T) {
	m := mill.New()
	key := pledge.Key(m, "draw")
	s := pledge.Slip(m, "draw", "id", "n", "value")
	checkKept(t, "no key", m, "", "id", s, "", "", false)
	checkKept(t, "the draw for the key", m, "draw", "id", s, "", "", false)
	for _, id := range []string{"", "i", "idd", "ID", "n"} {
		checkKept(t, "another ID", m, key, id, s, "", "", false)
	}
	other := pledge.Slip(m, "draw", "id", "m", "value")
	for what, x := range map[string]api.Slip{
		"empty":              {},
		"no name":            {Pledge: s.Pledge, Cipher: s.Cipher},
		"another name":       {Name: "m", Pledge: s.Pledge, Cipher: s.Cipher},
		"no pledge":          {Name: "n", Cipher: s.Cipher},
		"another pledge":     {Name: "n", Pledge: other.Pledge, Cipher: s.Cipher},
		"part of the pledge": {Name: "n", Pledge: s.Pledge[:31], Cipher: s.Cipher},
		"a longer pledge":    {Name: "n", Pledge: s.Pledge + "\x00", Cipher: s.Cipher},
		"no ciphertext":      {Name: "n", Pledge: s.Pledge},
		"another ciphertext": {Name: "n", Pledge: s.Pledge, Cipher: other.Cipher},
		"a salt more":        {Name: "n", Pledge: s.Pledge, Cipher: salt16 + s.Cipher},
		"another name, with all that is its own, for another ID": pledge.Slip(m, "draw", "i", "dm", "value"),
		"another draw": pledge.Slip(m, "drawn", "id", "n", "value"),
	} {
		checkKept(t, what, m, key, "id", x, "", "", false)
	}
}

// Promise 6.3: a change of any byte of the pledge or of the ciphertext is noticed, and so is a byte too many or too few.
func TestKeptOfChanged(t *testing.T) {
	m := mill.New()
	key := pledge.Key(m, "draw")
	s := pledge.Slip(m, "draw", "id", "n", "value")
	for _, bit := range []byte{1, 0x80, 0xff} {
		for i := range s.Pledge {
			x := s
			x.Pledge = s.Pledge[:i] + string([]byte{s.Pledge[i] ^ bit}) + s.Pledge[i+1:]
			checkKept(t, "changed pledge", m, key, "id", x, "", "", false)
		}
		for i := range s.Cipher {
			x := s
			x.Cipher = s.Cipher[:i] + string([]byte{s.Cipher[i] ^ bit}) + s.Cipher[i+1:]
			checkKept(t, "changed ciphertext", m, key, "id", x, "", "", false)
		}
	}
	for n := range s.Cipher {
		x := s
		x.Cipher = s.Cipher[:n]
		checkKept(t, "shorter ciphertext", m, key, "id", x, "", "", false)
	}
	x := s
	x.Cipher += "\x00"
	checkKept(t, "longer ciphertext", m, key, "id", x, "", "", false)
}

// Promise 6.3: an erased slip keeps nothing, with and without its ciphertext, and nothing is hashed for it, nor for one that is too short.
func TestKeptOfErased(t *testing.T) {
	m := mill.New()
	key := pledge.Key(m, "draw")
	s := pledge.Slip(m, "draw", "id", "n", "value")
	s.Erased = true
	checkKept(t, "erased, with a ciphertext", m, key, "id", s, "", "", false)
	s.Cipher = ""
	checkKept(t, "erased, without a ciphertext", m, key, "id", s, "", "", false)
	s.Erased = false
	checkKept(t, "not erased, without a ciphertext", m, key, "id", s, "", "", false)
	s.Cipher = strings.Repeat("c", 15)
	checkKept(t, "too short", m, key, "id", s, "", "", false)
	if m.Sums() != 1 {
		t.Errorf("%d strings were hashed", m.Sums())
	}
}

// Promise 6.5: another value is kept for a pledge only by a collision.
func TestKeptByCollision(t *testing.T) {
	field := func(salt, value string) string {
		return "\x02\x01\x02id\x01\x01n" + short(salt) + short(value)
	}
	salt := plainTag("draw", "salt\x01\x01n")[:16]
	m := with(t, mill.Entry{Text: field(salt16, "other"), Out: plain(field(salt, "value"))})
	s := pledge.Slip(m, "draw", "id", "n", "value")
	key := pledge.Key(m, "draw")
	s.Cipher = pledge.Shut(m, key, "n", salt16, "other")
	checkKept(t, "another value", m, key, "id", s, salt16, "other", true)
	if a, b, ok := m.Twins(); a != field(salt, "value") || b != field(salt16, "other") || !ok {
		t.Errorf("Twins = %q, %q, %v", a, b, ok)
	}
}

// Promise 6.4, rule R1: with a mill that does not work nothing is encrypted or kept, for whatever slip.
func TestIdleMillKeepsNothing(t *testing.T) {
	good := pledge.Slip(mill.New(), "draw", "id", "n", "value")
	key := pledge.Key(mill.New(), "draw")
	for what, m := range idle() {
		for _, name := range []string{"", "n", "not a name"} {
			if got := pledge.Slip(m, "draw", "id", name, "value"); got != (api.Slip{Name: name}) {
				t.Errorf("%s mill: Slip = %+v", what, got)
			}
		}
		for _, cipher := range []string{"", "c", salt16, good.Cipher} {
			checkOpen(t, m, key, "n", cipher, "", "", false)
			checkKept(t, what, m, key, "id", api.Slip{Name: "n", Cipher: cipher}, "", "", false)
			checkKept(t, what, m, key, "id", api.Slip{Name: "n", Pledge: good.Pledge, Cipher: cipher}, "", "", false)
		}
		checkKept(t, what, m, "", "", api.Slip{}, "", "", false)
	}
}
