package sha

// initial is the words before the first block: the first 32 bits of the fractional parts of the square roots of the first eight primes.
var initial = [8]uint32{
	0x6a09e667, 0xbb67ae85, 0x3c6ef372, 0xa54ff53a, 0x510e527f, 0x9b05688c, 0x1f83d9ab, 0x5be0cd19,
}

// added is what each round adds: the first 32 bits of the fractional parts of the cube roots of the first 64 primes.
var added = [64]uint32{
	0x428a2f98, 0x71374491, 0xb5c0fbcf, 0xe9b5dba5, 0x3956c25b, 0x59f111f1, 0x923f82a4, 0xab1c5ed5,
	0xd807aa98, 0x12835b01, 0x243185be, 0x550c7dc3, 0x72be5d74, 0x80deb1fe, 0x9bdc06a7, 0xc19bf174,
	0xe49b69c1, 0xefbe4786, 0x0fc19dc6, 0x240ca1cc, 0x2de92c6f, 0x4a7484aa, 0x5cb0a9dc, 0x76f988da,
	0x983e5152, 0xa831c66d, 0xb00327c8, 0xbf597fc7, 0xc6e00bf3, 0xd5a79147, 0x06ca6351, 0x14292967,
	0x27b70a85, 0x2e1b2138, 0x4d2c6dfc, 0x53380d13, 0x650a7354, 0x766a0abb, 0x81c2c92e, 0x92722c85,
	0xa2bfe8a1, 0xa81a664b, 0xc24b8b70, 0xc76c51a3, 0xd192e819, 0xd6990624, 0xf40e3585, 0x106aa070,
	0x19a4c116, 0x1e376c08, 0x2748774c, 0x34b0bcb5, 0x391c0cb3, 0x4ed8aa4a, 0x5b9cca4f, 0x682e6ff3,
	0x748f82ee, 0x78a5636f, 0x84c87814, 0x8cc70208, 0x90befffa, 0xa4506ceb, 0xbef9a3f7, 0xc67178f2,
}

// mixed is the words after a block; before is those before it.
func mixed(before [8]uint32, block [blockBytes]byte) [8]uint32 {
	w := schedule(block)
	x := before // a to h of the rounds
	for i := range w {
		a, b, c, e, f, g, h := x[0], x[1], x[2], x[4], x[5], x[6], x[7]
		t := h + (rotated(e, 6) ^ rotated(e, 11) ^ rotated(e, 25)) + (e&f ^ ^e&g) + added[i] + w[i]
		u := (rotated(a, 2) ^ rotated(a, 13) ^ rotated(a, 22)) + (a&b ^ a&c ^ b&c)
		copy(x[1:], x[:7])
		x[4] += t
		x[0] = t + u
	}
	for i := range x {
		x[i] += before[i]
	}
	return x
}

// schedule is the words that the rounds of a block take: its own, and those that follow from them.
func schedule(block [blockBytes]byte) [64]uint32 {
	var w [64]uint32
	for i := range len(block) {
		w[i/wordBytes] = w[i/wordBytes]<<8 | uint32(block[i])
	}
	for i := 16; i < len(w); i++ {
		p, q := w[i-15], w[i-2]
		w[i] = w[i-16] + (rotated(p, 7) ^ rotated(p, 18) ^ p>>3) + w[i-7] + (rotated(q, 17) ^ rotated(q, 19) ^ q>>10)
	}
	return w
}

// rotated is x rotated to the right by n bits.
func rotated(x uint32, n int) uint32 {
	return x>>n | x<<(32-n)
}
