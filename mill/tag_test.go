package mill_test

import (
	"crypto/hmac"
	"crypto/sha256"
	"math"
	"strings"
	"testing"

	"chartulary/mill"
	"chartulary/sha"
)

// plainTag is the tag of s with a key, as Go's library has it.
func plainTag(key, s string) string {
	h := hmac.New(sha256.New, []byte(key))
	h.Write([]byte(s))
	return string(h.Sum(nil))
}

// plainStream is the stream of so many tags.
func plainStream(key, label string, tags int) string {
	var b strings.Builder
	for i := range tags {
		b.WriteString(plainTag(key, label+string([]byte{byte(i >> 8), byte(i)})))
	}
	return b.String()
}

// keys are keys of all lengths up to some more than a block.
func keys() []string {
	l := []string{"Jefe", "\x00", strings.Repeat("\xaa", 131)}
	for n := range 130 {
		l = append(l, strings.Repeat("k", n))
	}
	return l
}

// Promise 3.1, the chapter's examples, and those of RFC 4231.
func TestTagKnown(t *testing.T) {
	for _, c := range []struct{ key, text, want string }{
		{"", "", "b613679a0814d9ec772f95d778c35fc5ff1697c493715653c6c712144292c5ad"},
		{"Jefe", "what do ya want for nothing?", "5bdcc146bf60754e6a042426089575c75a003f089d2739839dec58b964ec3843"},
		{strings.Repeat("\x0b", 20), "Hi There", "b0344c61d8db38535ca8afceaf0bf12b881dc200c9833da726e9376c2e32cff7"},
		{strings.Repeat("\xaa", 20), strings.Repeat("\xdd", 50), "773ea91e36800e46854db8ebd09181a72959098b3ef8c122d9635514ced565fe"},
		{strings.Repeat("\xaa", 131), "Test Using Larger Than Block-Size Key - Hash Key First", "60e431591ee0b67f0d8a26aacbf5b77f8e0bc6213728c5140546040f0ee37f54"},
	} {
		if got := sha.Hex(mill.New().Tag(c.key, c.text)); got != c.want {
			t.Errorf("Tag(%q, %q) = %s, want %s", c.key, c.text, got, c.want)
		}
	}
}

// Promise 3.1.
func TestTagWithoutTable(t *testing.T) {
	m := mill.New()
	for _, key := range keys() {
		for _, s := range []string{"", "a", "\x00", strings.Repeat("s", 55), strings.Repeat("s", 64), strings.Repeat("s", 1000)} {
			if got := m.Tag(key, s); got != plainTag(key, s) {
				t.Errorf("Tag(%q, %.20q) = %x, want %x", key, s, got, plainTag(key, s))
			}
		}
	}
	for _, s := range texts() {
		if got := m.Tag("key", s); got != plainTag("key", s) {
			t.Errorf("Tag(key, %.20q) = %x, want %x", s, got, plainTag("key", s))
		}
	}
}

// Promise 3.1: the table is asked for the tag, and not for the hashes that it is made of.
func TestTagWithTable(t *testing.T) {
	long := strings.Repeat("k", 65)
	m := with(t,
		mill.Entry{Tag: true, Key: "k", Text: "a", Out: out("1")},
		mill.Entry{Tag: true, Key: "k", Text: "a", Out: out("2")},
		mill.Entry{Tag: true, Key: "k", Text: "", Out: out("3")},
		mill.Entry{Tag: true, Key: "l", Text: "a", Out: out("4")},
		mill.Entry{Tag: true, Text: "a", Out: out("5")},
		mill.Entry{Tag: true, Key: long, Text: "a", Out: out("6")},
		mill.Entry{Text: "a", Out: out("7")},
		mill.Entry{Key: "k", Text: "b", Out: out("8")},
		mill.Entry{Text: long, Out: plain("k")}, // no matter for keys
	)
	for _, c := range []struct{ key, text, want string }{
		{"k", "a", out("1")}, {"k", "", out("3")}, {"l", "a", out("4")}, {"", "a", out("5")}, {long, "a", out("6")},
		{"k", "b", plainTag("k", "b")}, {"l", "", plainTag("l", "")}, {"m", "a", plainTag("m", "a")},
		{"k\x00", "a", plainTag("k", "a")},             // another key, though its tags are the same
		{sha.Sum(long), "a", plainTag(long, "a")},      // likewise
		{sha.Sum("k"), "a", plainTag(plain("k"), "a")}, // the hash is not the key
		{"ka", "", plainTag("ka", "")}, {"", "ka", plainTag("", "ka")},
		{long, "", plainTag(long, "")},
	} {
		for range 2 {
			if got := m.Tag(c.key, c.text); got != c.want {
				t.Errorf("Tag(%q, %q) = %x, want %x", c.key, c.text, got, c.want)
			}
		}
	}
}

// Promise 3.1: the hashes in a tag are plain.
func TestTagWithTableForItsParts(t *testing.T) {
	inner := "k" + strings.Repeat("\x00", 63)
	outer := []byte(inner)
	b := []byte(inner)
	for i := range b {
		b[i] ^= 0x36
		outer[i] ^= 0x5c
	}
	long := strings.Repeat("k", 65)
	m := with(t,
		mill.Entry{Text: string(b) + "a", Out: out("1")},
		mill.Entry{Text: string(outer) + plain(string(b)+"a"), Out: out("2")},
		mill.Entry{Text: long, Out: out("3")},
	)
	if got := m.Tag("k", "a"); got != plainTag("k", "a") {
		t.Errorf("Tag(k, a) = %x, want %x", got, plainTag("k", "a"))
	}
	if got := m.Tag(long, "a"); got != plainTag(long, "a") {
		t.Errorf("Tag of a long key = %x, want %x", got, plainTag(long, "a"))
	}
}

// Promise 3.3.
func TestStream(t *testing.T) {
	m := mill.New()
	for _, key := range []string{"", "k", strings.Repeat("k", 64), strings.Repeat("k", 65)} {
		for _, label := range []string{"", "label", "\x00\x00", strings.Repeat("l", 100)} {
			whole := plainStream(key, label, 9)
			for n := range len(whole) + 1 {
				if got := m.Stream(key, label, n); got != whole[:n] {
					t.Errorf("Stream(%.20q, %.20q, %d) = %x, want %x", key, label, n, got, whole[:n])
				}
			}
		}
	}
}

// Promise 3.3.
func TestStreamOfNothing(t *testing.T) {
	for _, n := range []int{0, -1, -32, math.MinInt32, math.MinInt} {
		if got := mill.New().Stream("k", "l", n); got != "" {
			t.Errorf("Stream(k, l, %d) = %x", n, got)
		}
	}
}

// Promise 3.3: the number's first byte counts too, and behind the last number, the numbers begin anew.
func TestLongStream(t *testing.T) {
	whole := plainStream("k", "l", 1<<16)
	whole += whole[:1000]
	m := mill.New()
	for _, n := range []int{256 * 32, 256*32 + 1, 257 * 32, 1 << 20, 1<<21 - 1, 1 << 21, 1<<21 + 1, 1<<21 + 1000} {
		if got := m.Stream("k", "l", n); got != whole[:n] {
			t.Errorf("Stream(k, l, %d) has %d bytes, or wrong ones", n, len(got))
		}
	}
	s := strings.Repeat("text", 1<<19) + "more"
	v := m.Veil("k", "l", s)
	if len(v) != len(s) || m.Veil("k", "l", v) != s {
		t.Errorf("Veil of a long string, twice, is another")
	}
	for i := range v {
		if v[i] != s[i]^whole[i] {
			t.Fatalf("Veil of a long string, byte %d: %x", i, v[i])
		}
	}
}

// Rule R1: a length beyond the document's bound does no harm.
func TestStreamBeyondTheBound(t *testing.T) {
	if got := mill.New().Stream("k", "l", math.MaxInt); got != "" {
		t.Errorf("Stream(k, l, MaxInt) has %d bytes", len(got))
	}
}

// Promise 3.3: a table gives the tags that make a stream.
func TestStreamWithTable(t *testing.T) {
	m := with(t,
		mill.Entry{Tag: true, Key: "k", Text: "l\x00\x01", Out: out("1")},
		mill.Entry{Text: "l\x00\x00", Out: out("2")},
		mill.Entry{Tag: true, Key: "k", Text: "l\x01\x00", Out: out("3")},
	)
	whole := plainStream("k", "l", 300)
	whole = whole[:32] + out("1") + whole[64:256*32] + out("3") + whole[257*32:]
	for _, n := range []int{31, 32, 33, 63, 64, 65, 96, 256 * 32, 256*32 + 1, 257 * 32, 300 * 32} {
		if got := m.Stream("k", "l", n); got != whole[:n] {
			t.Errorf("Stream(k, l, %d) = %.200x, want %.200x", n, got, whole[:n])
		}
	}
	if got := m.Stream("m", "l", 96); got != plainStream("m", "l", 3) {
		t.Errorf("Stream(m, l, 96) = %x", got)
	}
	if got := m.Veil("k", "l", strings.Repeat("\x00", 96)); got != whole[:96] {
		t.Errorf("Veil of zeros = %x", got)
	}
}

// Promises 3.3 and 3.5.
func TestVeil(t *testing.T) {
	m := with(t, mill.Entry{Tag: true, Key: "k", Text: "l\x00\x00", Out: out("1")})
	for _, key := range []string{"", "k", strings.Repeat("k", 65)} {
		for _, label := range []string{"", "l"} {
			for _, s := range texts() {
				v, stream := m.Veil(key, label, s), m.Stream(key, label, len(s))
				if len(v) != len(s) || len(stream) != len(s) {
					t.Fatalf("Veil(%q, %q, %d bytes) has %d bytes", key, label, len(s), len(v))
				}
				for i := range len(s) {
					if v[i] != s[i]^stream[i] {
						t.Errorf("Veil(%q, %q, %.20q), byte %d: %x", key, label, s, i, v[i])
					}
				}
				if m.Veil(key, label, v) != s {
					t.Errorf("Veil(%q, %q, ..) of %.20q, twice, is another", key, label, s)
				}
			}
		}
	}
}

// Promise 3.3: keys and labels make streams of their own.
func TestStreamsDiffer(t *testing.T) {
	m := mill.New()
	seen := map[string]bool{}
	for _, key := range keys() {
		if key == "\x00" {
			continue // padded, it is the empty key
		}
		for _, label := range []string{"", "a", "b", "ab"} {
			seen[m.Stream(key, label, 16)] = true
		}
	}
	if want := 4 * (len(keys()) - 1); len(seen) != want {
		t.Errorf("%d different streams, want %d", len(seen), want)
	}
}
