// Package octet is layer 1, a canonical byte encoding of numbers and strings: see shared/doc/01-octet.md.
package octet

// maxDigits is how many bytes a number may need; from tooGreat on it needs more.
const (
	maxDigits = 7
	tooGreat  = 1 << (8 * maxDigits)
)

// Num is the encoding of a number: how many bytes it needs, and these, the highest first; empty for one below 0, or that needs more than seven.
func Num(n int) string {
	if n < 0 || n >= tooGreat {
		return ""
	}
	var b [1 + maxDigits]byte
	first := len(b)
	for ; n > 0; n >>= 8 {
		first--
		b[first] = byte(n)
	}
	b[first-1] = byte(len(b) - first)
	return string(b[first-1:])
}

// Text is the encoding of a string: its length, and itself.
func Text(s string) string {
	return Num(len(s)) + s
}
