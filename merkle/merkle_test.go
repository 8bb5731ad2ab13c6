package merkle_test

import (
	"crypto/sha256"
	"encoding/hex"
	"slices"
	"strconv"
	"strings"
	"testing"

	"chartulary/api"
	"chartulary/merkle"
	"chartulary/mill"
)

// sum is the hash of s, as Go's library has it.
func sum(s string) string {
	h := sha256.Sum256([]byte(s))
	return string(h[:])
}

// node is the hash of two children.
func node(a, b string) string {
	return sum("\x01" + a + b)
}

// none is the hash of no leaves.
var none = sum("")

// leaves are n different hashes of leaves.
func leaves(n int) []string {
	l := make([]string, n)
	for i := range l {
		l[i] = sum("\x00leaf " + strconv.Itoa(i))
	}
	return l
}

// up is the next level of a tree: two neighbours become one, and a last one without a neighbour rises as it is.
func up(l []string) []string {
	var r []string
	for i := 0; i < len(l); i += 2 {
		if i+1 == len(l) {
			r = append(r, l[i])
		} else {
			r = append(r, node(l[i], l[i+1]))
		}
	}
	return r
}

// rootOf is the root of leaves, computed level by level.
func rootOf(l []string) string {
	if len(l) == 0 {
		return none
	}
	for len(l) > 1 {
		l = up(l)
	}
	return l[0]
}

// idle are mills that New and With did not make.
func idle() map[string]*mill.Mill {
	return map[string]*mill.Mill{"nil": nil, "zero": {}}
}

// with is a mill with a table.
func with(t *testing.T, l ...mill.Entry) *mill.Mill {
	t.Helper()
	m, e := mill.With(l)
	if e != api.OK {
		t.Fatal(e)
	}
	return m
}

// spare is l in a list with room behind it, and the room.
func spare(l []string) (list, room []string) {
	all := append(slices.Clone(l), "room", "room")
	return all[:len(l)], all[len(l):]
}

// checkSpare checks that a call wrote neither to a list nor to its room.
func checkSpare(t *testing.T, what string, list, want, room []string) {
	t.Helper()
	if !slices.Equal(list, want) || !slices.Equal(room, []string{"room", "room"}) {
		t.Errorf("%s: the argument was changed", what)
	}
}

// Promise 7.1, with the roots that the tests of Certificate Transparency have for these leaves.
func TestRootOfCertificateTransparency(t *testing.T) {
	texts := []string{"", "00", "10", "2021", "3031", "40414243", "5051525354555657", "606162636465666768696a6b6c6d6e6f"}
	roots := []string{
		"e3b0c44298fc1c149afbf4c8996fb92427ae41e4649b934ca495991b7852b855",
		"6e340b9cffb37a989ca544e6bb780a2c78901d3fb33738768511a30617afa01d",
		"fac54203e7cc696cf0dfcb42c92a1d9dbaf70ad9e621f4bd8d98662f00e3c125",
		"aeb6bcfe274b70a14fb067a5e5578264db0fa9b51af5e0ba159158f329e06e77",
		"d37ee418976dd95753c1c73862b9398fa2a2cf9b4ff0fdfe8b30cd95209614b7",
		"4e3bbb1f7b478dcfe71fb631631519a3bca12c9aefca1612bfce4c13a86264d4",
		"76e67dadbcdf1e10e1b74ddc608abd2f98dfb16fbce75277b5232a127f2087ef",
		"ddb89be403809e325750d3d263cd78929c2942b7942a34b77e122c9594a74c8c",
		"5dc9da79a70659a9ad559cb701ded9a2ab9d823aad2f4960cfe370eff4604328",
	}
	m, f := mill.New(), merkle.New(mill.New())
	var l []string
	for n, want := range roots {
		if got := hex.EncodeToString([]byte(merkle.Root(m, l))); got != want {
			t.Errorf("Root of %d leaves = %s, want %s", n, got, want)
		}
		if got := hex.EncodeToString([]byte(f.Root())); got != want {
			t.Errorf("Root of a front with %d leaves = %s, want %s", n, got, want)
		}
		if n < len(texts) {
			b, _ := hex.DecodeString(texts[n])
			l = append(l, sum("\x00"+string(b)))
			f.Add(sum("\x00" + string(b)))
		}
	}
}

// Promise 7.1.
func TestRoot(t *testing.T) {
	for n := range 140 {
		l := leaves(n)
		list, room := spare(l)
		if got := merkle.Root(mill.New(), list); got != rootOf(l) {
			t.Errorf("Root of %d leaves = %x, want %x", n, got, rootOf(l))
		}
		checkSpare(t, "Root", list, l, room)
	}
	if merkle.Root(mill.New(), nil) != none || merkle.Root(mill.New(), []string{}) != none {
		t.Error("Root of no leaves")
	}
	l := leaves(merkle.Most + 1)
	if merkle.Root(mill.New(), l) != rootOf(l) {
		t.Error("Root of 65537 leaves")
	}
}

// Promise 7.1: leaves may be any strings.
func TestRootOfTexts(t *testing.T) {
	m := mill.New()
	for _, s := range []string{"", "x", strings.Repeat("y", 1000)} {
		if got := merkle.Root(m, []string{s}); got != s {
			t.Errorf("Root of %.10q = %.10q", s, got)
		}
		if got := merkle.Root(m, []string{s, "b", ""}); got != node(node(s, "b"), "") {
			t.Errorf("Root of %.10q, b and nothing = %x", s, got)
		}
	}
}

// Promise 7.1: the hashes are those of the mill.
func TestRootWithTable(t *testing.T) {
	a, b, c := strings.Repeat("a", 32), strings.Repeat("b", 32), strings.Repeat("c", 32)
	m := with(t, mill.Entry{Text: "", Out: a}, mill.Entry{Text: "\x01xy", Out: b}, mill.Entry{Text: "\x01" + b + "z", Out: c})
	for _, r := range []struct {
		l    []string
		want string
	}{
		{nil, a},
		{[]string{"x", "y"}, b},
		{[]string{"x", "y", "z"}, c},
		{[]string{"x", "y", "z", "x"}, node(b, node("z", "x"))},
	} {
		if got := merkle.Root(m, r.l); got != r.want {
			t.Errorf("Root(%q) = %q, want %q", r.l, got, r.want)
		}
	}
}

// Rule R1: with a nil mill all hashes are empty.
func TestRootWithoutMill(t *testing.T) {
	for name, m := range idle() {
		if got := merkle.Root(m, nil); got != "" {
			t.Errorf("%s: Root of no leaves = %q", name, got)
		}
		if got := merkle.Root(m, []string{"x"}); got != "x" {
			t.Errorf("%s: Root of a leaf = %q", name, got)
		}
		for n := 2; n < 9; n++ {
			if got := merkle.Root(m, leaves(n)); got != "" {
				t.Errorf("%s: Root of %d leaves = %q", name, n, got)
			}
		}
	}
}
