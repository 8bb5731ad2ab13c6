package guard

// stampBytes is how many bytes a number has on the disk.
const stampBytes = 8

// Eight is n modulo 2^64 as eight bytes, the highest first.
func Eight(n int) string {
	b := make([]byte, stampBytes)
	for i := range b {
		b[i] = byte(n >> (8 * (stampBytes - 1 - i)))
	}
	return string(b)
}

// Number is the number with the bytes s, the highest first, modulo 2^64.
func Number(s string) int {
	n := 0
	// What stands before the last eight bytes is a multiple of 2^64.
	for _, b := range []byte(s[max(0, len(s)-stampBytes):]) {
		n = n<<8 | int(b)
	}
	return n
}
