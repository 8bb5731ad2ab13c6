package mill

import (
	"strings"

	"chartulary/sha"
)

const (
	blockBytes = 64
	innerPad   = 0x36
	outerPad   = 0x5c

	counters  = 1 << 16   // as many as two bytes have
	maxAnswer = 1<<31 - 1 // the document's bound for what one call answers
)

// secret is a key, made ready for any number of tags.
type secret struct {
	hash         string // for the table; empty if that asks for no key
	inner, outer string
}

// ready makes a key ready.
func (m *Mill) ready(key string) secret {
	var k secret
	if m.keyed {
		k.hash = sha.Sum(key)
	}
	if len(key) > blockBytes {
		key = sha.Sum(key)
	}
	k.inner, k.outer = padded(key, innerPad), padded(key, outerPad)
	return k
}

// padded is a key, padded to a block, with each byte xored with one.
func padded(key string, with byte) string {
	var b [blockBytes]byte
	copy(b[:], key)
	for i := range b {
		b[i] ^= with
	}
	return string(b[:])
}

// tag is the table's output for s with a key, or else the tag.
func (m *Mill) tag(k secret, s string) string {
	if m.keyed {
		if o, there := m.table[input{tag: true, keyHash: k.hash, text: s}]; there {
			return o.out
		}
	}
	return sha.Sum(k.outer + sha.Sum(k.inner+s))
}

// Tag is the HMAC of s with a key; it notes nothing.
func (m *Mill) Tag(key, s string) string {
	if !m.works() {
		return ""
	}
	return m.tag(m.ready(key), s)
}

// Stream is n bytes that a key makes of a label: the tags of the label with 0, 1, 2 and so on behind it.
func (m *Mill) Stream(key, label string, n int) string {
	if !m.works() || n < 1 || n > maxAnswer {
		return ""
	}
	k := m.ready(key)
	var b []byte
	for i := 0; i < counters && len(b) < n; i++ {
		b = append(b, m.tag(k, label+string([]byte{byte(i >> 8), byte(i)}))...)
	}
	return repeated(string(b), n)
}

// repeated is the first n bytes of s, s, s and so on: behind their last number, two bytes begin anew with 0.
func repeated(s string, n int) string {
	return strings.Repeat(s, n/len(s)) + s[:n%len(s)]
}

// Veil is s, each byte xored with one of the stream of its length.
func (m *Mill) Veil(key, label, s string) string {
	b := []byte(m.Stream(key, label, len(s)))
	for i := range b {
		b[i] ^= s[i]
	}
	return string(b)
}
