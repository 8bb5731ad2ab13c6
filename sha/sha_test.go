package sha_test

import (
	"crypto/sha256"
	"encoding/hex"
	"math/rand"
	"strings"
	"testing"

	"chartulary/sha"
)

// known are hashes of FIPS 180-4's examples and of the chapter's.
var known = []struct{ text, want string }{
	{"", "e3b0c44298fc1c149afbf4c8996fb92427ae41e4649b934ca495991b7852b855"},
	{"abc", "ba7816bf8f01cfea414140de5dae2223b00361a396177a9cb410ff61f20015ad"},
	{"abcdbcdecdefdefgefghfghighijhijkijkljklmklmnlmnomnopnopq", "248d6a61d20638b8e5c026930c3e6039a33ce45964ff2167f6ecedd419db06c1"},
	{
		"abcdefghbcdefghicdefghijdefghijkefghijklfghijklmghijklmnhijklmnoijklmnopjklmnopqklmnopqrlmnopqrsmnopqrstnopqrstu",
		"cf5b16a778af8380036ce59e7b0492370b249b11e8f07a51afac45037afee9d1",
	},
	{strings.Repeat("a", 1000000), "cdc76e5c9914fb9281a1c7e284d73e67f1809a48a497200e046d39ccc7112cd0"},
}

// noise is n bytes, the same for the same n.
func noise(n int) string {
	b := make([]byte, n)
	rand.New(rand.NewSource(int64(n))).Read(b)
	return string(b)
}

// want is the hash of s, as Go's library has it.
func want(s string) string {
	h := sha256.Sum256([]byte(s))
	return string(h[:])
}

// texts are strings of every length up to a few blocks, and around some more, of bytes of every kind.
func texts() []string {
	l := []string{noise(4095), noise(4096), noise(4097), noise(100003)}
	for n := range 4*64 + 2 {
		l = append(l, noise(n), strings.Repeat("\x00", n), strings.Repeat("\xff", n), strings.Repeat("a", n))
	}
	return l
}

// Promise 2.1.
func TestSumKnown(t *testing.T) {
	for _, c := range known {
		if got := sha.Hex(sha.Sum(c.text)); got != c.want {
			t.Errorf("Sum of %.20q (%d bytes) = %s, want %s", c.text, len(c.text), got, c.want)
		}
	}
}

// Promise 2.1.
func TestSum(t *testing.T) {
	for _, s := range texts() {
		if got := sha.Sum(s); got != want(s) {
			t.Errorf("Sum of %.20q (%d bytes) = %x, want %x", s, len(s), got, want(s))
		}
	}
}

// Promise 2.1: a change of any one bit of a block, or of the byte behind it, is a change of the hash.
func TestSumOfEachBit(t *testing.T) {
	seen := map[string]bool{sha.Sum(strings.Repeat("\x00", 65)): true}
	for i := range 8 * 65 {
		b := make([]byte, 65)
		b[i/8] = 1 << (i % 8)
		got := sha.Sum(string(b))
		if got != want(string(b)) || seen[got] {
			t.Errorf("bit %d: Sum = %x, want %x", i, got, want(string(b)))
		}
		seen[got] = true
	}
}

// Promise 2.1: what is hashed is bytes, whether or not they are characters.
func TestSumOfBytes(t *testing.T) {
	for _, s := range []string{"\xc3\xa9", "e\xcc\x81", "\xff\xfe\xfd", "\x00", "\x00\x00", "\x80", "a\x80", "\n", "Az\x7f"} {
		if got := sha.Sum(s); got != want(s) {
			t.Errorf("Sum of %q = %x, want %x", s, got, want(s))
		}
	}
}

// Promise 2.1.
func TestHex(t *testing.T) {
	for _, c := range []struct{ s, want string }{
		{"", ""},
		{"\x00", "00"},
		{"\x0f", "0f"},
		{"\xf0", "f0"},
		{"\x09\x0a\x9a\xa9", "090a9aa9"},
		{"\xff\x00\x10", "ff0010"},
		{"abc", "616263"},
		{"\xc3\xa9", "c3a9"},
	} {
		if got := sha.Hex(c.s); got != c.want {
			t.Errorf("Hex of %q = %q, want %q", c.s, got, c.want)
		}
	}
	for _, s := range texts() {
		if got := sha.Hex(s); got != hex.EncodeToString([]byte(s)) {
			t.Errorf("Hex of %.20q (%d bytes) = %.40q", s, len(s), got)
		}
	}
	for i := range 256 {
		s := string([]byte{byte(i)})
		if got := sha.Hex(s); got != hex.EncodeToString([]byte(s)) {
			t.Errorf("Hex of the byte %d = %q", i, got)
		}
	}
}
