package sha_test

import (
	"crypto/sha256"
	"math/rand"
	"strings"
	"testing"

	"chartulary/sha"
)

// check checks that s, and nothing else, was written to a state.
func check(t *testing.T, what string, st *sha.State, s string) {
	t.Helper()
	if got := st.Sum(); got != want(s) {
		t.Errorf("%s: Sum after %d bytes = %x, want %x", what, len(s), got, want(s))
	}
	if got := st.Len(); got != len(s) {
		t.Errorf("%s: Len = %d, want %d", what, got, len(s))
	}
}

// Promise 2.1.
func TestNew(t *testing.T) {
	check(t, "new", sha.New(), "")
	st := sha.New()
	st.Write("")
	check(t, "nothing written", st, "")
	st.Write("abc")
	check(t, "abc", st, "abc")
	st.Write("")
	check(t, "abc, and nothing", st, "abc")
	check(t, "another one", sha.New(), "")
}

// Promise 2.1: Sum takes nothing away, and adds nothing.
func TestWriteGoesOnAfterSum(t *testing.T) {
	st, s := sha.New(), ""
	for n := range 4*64 + 2 {
		piece := noise(n % 7)
		st.Write(piece)
		s += piece
		for range 2 {
			check(t, "going on", st, s)
		}
	}
}

// Promise 2.1: states have nothing to do with each other.
func TestStatesApart(t *testing.T) {
	a, b, c := sha.New(), sha.New(), sha.New()
	x, y := "", ""
	for n := range 40 {
		p, q := noise(3*n), strings.Repeat("b", n)
		a.Write(p)
		b.Write(q)
		x, y = x+p, y+q
	}
	check(t, "one", a, x)
	check(t, "other", b, y)
	check(t, "third", c, "")
	if got := sha.Sum("abc"); got != want("abc") {
		t.Errorf("Sum among states = %x", got)
	}
}

// Promise 2.1, the chapter's example.
func TestTenWrites(t *testing.T) {
	st := sha.New()
	for range 10 {
		st.Write("aaaaaaaaaaaaa")
	}
	check(t, "ten writes", st, strings.Repeat("a", 130))
	if st.Len() != 130 || st.Sum() != sha.Sum(strings.Repeat("a", 130)) {
		t.Errorf("Len = %d, Sum = %x", st.Len(), st.Sum())
	}
}

// Promise 2.1: a length in bits that needs more than four bytes.
func TestLongString(t *testing.T) {
	const pieces = 513
	piece := noise(1 << 20)
	st, h := sha.New(), sha256.New()
	for range pieces {
		st.Write(piece)
		h.Write([]byte(piece))
	}
	if got := st.Sum(); got != string(h.Sum(nil)) {
		t.Errorf("Sum = %x, want %x", got, h.Sum(nil))
	}
	if st.Len() != pieces<<20 {
		t.Errorf("Len = %d, want %d", st.Len(), pieces<<20)
	}
}

// Promise 2.2.
func TestStateThatNewDidNotCreate(t *testing.T) {
	var none *sha.State
	for name, st := range map[string]*sha.State{"nil": none, "zero": {}, "new(State)": new(sha.State)} {
		for _, s := range []string{"", "abc", strings.Repeat("a", 64), noise(1000)} {
			if st.Sum() != "" || st.Len() != 0 {
				t.Errorf("%s: Sum = %x, Len = %d", name, st.Sum(), st.Len())
			}
			st.Write(s)
			if st.Sum() != "" || st.Len() != 0 {
				t.Errorf("%s, after Write of %d bytes: Sum = %x, Len = %d", name, len(s), st.Sum(), st.Len())
			}
		}
	}
}

// Promise 2.3: in two pieces, wherever they are parted.
func TestTwoPieces(t *testing.T) {
	for n := range 3*64 + 2 {
		s := noise(n)
		for i := range n + 1 {
			st := sha.New()
			st.Write(s[:i])
			st.Write(s[i:])
			check(t, "two pieces", st, s)
		}
	}
}

// Promise 2.3: in pieces of one length.
func TestEqualPieces(t *testing.T) {
	s := noise(1000)
	for size := 1; size <= len(s); size++ {
		st := sha.New()
		for i := 0; i < len(s); i += size {
			st.Write(s[i:min(i+size, len(s))])
		}
		check(t, "equal pieces", st, s)
	}
}

// Promise 2.3: in pieces of any length, some of them empty, and some asked for their hash in between.
func TestAnyPieces(t *testing.T) {
	r := rand.New(rand.NewSource(1))
	for range 300 {
		s, st := noise(r.Intn(2000)), sha.New()
		for i := 0; i < len(s); {
			n := min(r.Intn(1+r.Intn(200)), len(s)-i)
			st.Write(s[i : i+n])
			i += n
			if r.Intn(4) == 0 {
				st.Sum()
			}
		}
		check(t, "any pieces", st, s)
	}
}
