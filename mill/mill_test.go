package mill_test

import (
	"crypto/sha256"
	"strconv"
	"strings"
	"testing"

	"chartulary/api"
	"chartulary/mill"
	"chartulary/sha"
)

// plain is the hash of s, as Go's library has it.
func plain(s string) string {
	h := sha256.Sum256([]byte(s))
	return string(h[:])
}

// out is an output of 32 equal bytes.
func out(c string) string {
	return strings.Repeat(c, api.HashBytes)
}

// with is a mill with a table.
func with(t *testing.T, l ...mill.Entry) *mill.Mill {
	t.Helper()
	m, e := mill.With(l)
	if e != api.OK || m == nil {
		t.Fatalf("With(%+v) = %v, %v", l, m, e)
	}
	return m
}

// checkTwins checks what Twins answers: none if ok is false.
func checkTwins(t *testing.T, what string, m *mill.Mill, a, b string, ok bool) {
	t.Helper()
	if x, y, got := m.Twins(); x != a || y != b || got != ok {
		t.Errorf("%s: Twins = %q, %q, %v, want %q, %q, %v", what, x, y, got, a, b, ok)
	}
}

// checkCounts checks what Full and Sums answer.
func checkCounts(t *testing.T, what string, m *mill.Mill, full bool, sums int) {
	t.Helper()
	if m.Full() != full || m.Sums() != sums {
		t.Errorf("%s: Full = %v, Sums = %d, want %v, %d", what, m.Full(), m.Sums(), full, sums)
	}
}

// texts are strings of all lengths up to a few blocks, and a long one.
func texts() []string {
	l := []string{strings.Repeat("long", 5000), "\x00", "\xff\xfe", "abc", "b"}
	for n := range 200 {
		l = append(l, strings.Repeat("a", n))
	}
	return l
}

// Promise 3.1.
func TestSumWithoutTable(t *testing.T) {
	empty, e := mill.With(nil)
	if e != api.OK {
		t.Fatal(e)
	}
	for name, m := range map[string]*mill.Mill{"New": mill.New(), "With(nil)": empty, "With no entries": with(t)} {
		for _, s := range texts() {
			for range 2 {
				if got := m.Sum(s); got != plain(s) {
					t.Errorf("%s: Sum(%.20q) = %x, want %x", name, s, got, plain(s))
				}
			}
		}
	}
}

// Promise 3.1.
func TestSumWithTable(t *testing.T) {
	m := with(t,
		mill.Entry{Text: "a", Out: out("1")},
		mill.Entry{Text: "", Out: out("2")},
		mill.Entry{Text: "a", Out: out("3")},
		mill.Entry{Text: "c", Key: "no matter", Out: out("4")},
		mill.Entry{Tag: true, Key: "k", Text: "d", Out: out("5")},
		mill.Entry{Tag: true, Text: "e", Out: out("6")},
		mill.Entry{Text: "e", Out: out("7")},
	)
	for range 2 {
		for s, want := range map[string]string{
			"a": out("1"), "": out("2"), "c": out("4"), "e": out("7"),
			"b": plain("b"), "d": plain("d"), "a\x00": plain("a\x00"), "aa": plain("aa"), out("1"): plain(out("1")),
		} {
			if got := m.Sum(s); got != want {
				t.Errorf("Sum(%q) = %x, want %x", s, got, want)
			}
		}
	}
	if got := mill.New().Sum("a"); got != plain("a") {
		t.Errorf("another mill: Sum(a) = %x", got)
	}
}

// Promise 3.1.
func TestWithWrongOutput(t *testing.T) {
	good := mill.Entry{Text: "a", Out: out("1")}
	for _, n := range []int{0, 1, 31, 33, 64} {
		for _, tag := range []bool{false, true} {
			bad := mill.Entry{Tag: tag, Text: "a", Out: strings.Repeat("x", n)}
			for _, l := range [][]mill.Entry{{bad}, {good, bad}, {bad, good}, {good, bad, good}} {
				if m, e := mill.With(l); m != nil || e != api.ErrArg {
					t.Errorf("With(%+v) = %v, %v, want nil, ErrArg", l, m, e)
				}
			}
		}
	}
}

// Promise 3.1, rule R3: the list is the caller's again.
func TestWithKeepsNoList(t *testing.T) {
	l := []mill.Entry{{Text: "a", Out: out("1")}, {Tag: true, Key: "k", Text: "a", Out: out("2")}}
	m := with(t, l...)
	l[0], l[1] = mill.Entry{Text: "b", Out: out("3")}, mill.Entry{Text: "c", Out: "4"}
	if m.Sum("a") != out("1") || m.Sum("b") != plain("b") || m.Sum("c") != plain("c") || m.Tag("k", "a") != out("2") {
		t.Errorf("a change of the list changed the table")
	}
	if l[0].Text != "b" || l[1].Out != "4" {
		t.Errorf("the list was changed: %+v", l)
	}
}

// Promise 3.2, the chapter's example.
func TestTwins(t *testing.T) {
	m := with(t, mill.Entry{Text: "b", Out: plain("a")})
	checkTwins(t, "nothing hashed", m, "", "", false)
	m.Sum("a")
	m.Sum("a")
	checkTwins(t, "a hashed twice", m, "", "", false)
	m.Sum("b")
	checkTwins(t, "a, b hashed", m, "a", "b", true)

	m = with(t, mill.Entry{Text: "b", Out: plain("a")})
	m.Sum("b")
	m.Sum("a")
	checkTwins(t, "b, a hashed", m, "b", "a", true)
}

// Promise 3.2: the first collision stays, and each is with the string that was noted.
func TestTwinsAreTheFirst(t *testing.T) {
	m := with(t,
		mill.Entry{Text: "", Out: out("1")}, mill.Entry{Text: "a", Out: out("1")}, mill.Entry{Text: "b", Out: out("1")},
		mill.Entry{Text: "c", Out: out("2")}, mill.Entry{Text: "d", Out: out("2")},
	)
	for _, s := range []string{"", "c", "x", "", "c"} {
		m.Sum(s)
		checkTwins(t, "none yet", m, "", "", false)
	}
	for _, s := range []string{"a", "b", "d", "c", ""} {
		m.Sum(s)
		checkTwins(t, "after "+s, m, "", "a", true)
	}
	checkCounts(t, "twins", m, false, 10)
}

// Promise 3.2: only what Sum hashes is noted.
func TestTagIsNotNoted(t *testing.T) {
	m := with(t,
		mill.Entry{Text: "a", Out: out("1")},
		mill.Entry{Tag: true, Key: "k", Text: "b", Out: out("1")},
		mill.Entry{Text: "c", Out: plain("k")},
	)
	m.Sum("a")
	m.Tag("k", "b")
	m.Tag("k", "a")
	m.Stream("k", "", 100)
	m.Veil("k", "", "abc")
	m.Sum("c")
	checkTwins(t, "tags", m, "", "", false)
	checkCounts(t, "tags", m, false, 2)
}

// fill hashes n strings that are different from each other, and begin with s.
func fill(m *mill.Mill, s string, n int) {
	for i := range n {
		m.Sum(s + strconv.Itoa(i))
	}
}

// Promise 3.2.
func TestFull(t *testing.T) {
	m := with(t, mill.Entry{Text: "twin", Out: plain("x0")}, mill.Entry{Text: "late twin", Out: plain("late")})
	fill(m, "x", mill.MaxNotes-1)
	checkCounts(t, "one note short", m, false, mill.MaxNotes-1)
	m.Sum("last")
	fill(m, "x", 10)
	checkCounts(t, "all notes", m, false, mill.MaxNotes+10)
	m.Sum("twin") // no new hash
	checkCounts(t, "a twin", m, false, mill.MaxNotes+11)
	checkTwins(t, "a twin", m, "x0", "twin", true)
	m.Sum("late")
	checkCounts(t, "one too many", m, true, mill.MaxNotes+12)
	fill(m, "x", 10)
	checkCounts(t, "afterwards", m, true, mill.MaxNotes+22)
	if mill.MaxNotes != 20000 {
		t.Errorf("MaxNotes = %d", mill.MaxNotes)
	}
}

// Promise 3.2: a full mill notes no more, but goes by its notes.
func TestTwinsOfFullMill(t *testing.T) {
	m := with(t, mill.Entry{Text: "twin", Out: plain("x0")}, mill.Entry{Text: "late twin", Out: plain("late")})
	fill(m, "x", mill.MaxNotes)
	m.Sum("late")
	m.Sum("late twin")
	checkTwins(t, "not noted", m, "", "", false)
	checkCounts(t, "not noted", m, true, mill.MaxNotes+2)
	if m.Sum("twin") != plain("x0") {
		t.Errorf("a full mill has another table")
	}
	checkTwins(t, "noted", m, "x0", "twin", true)
}

// Promise 3.2: strings with a hash that was noted make no mill full.
func TestTwinsTakeNoNote(t *testing.T) {
	m := with(t, mill.Entry{Text: "a", Out: plain("x0")}, mill.Entry{Text: "b", Out: plain("x0")})
	fill(m, "x", 1)
	m.Sum("a")
	m.Sum("b")
	fill(m, "x", mill.MaxNotes)
	checkCounts(t, "all notes", m, false, mill.MaxNotes+3)
	m.Sum("one more")
	checkCounts(t, "one more", m, true, mill.MaxNotes+4)
}

// Promise 3.2: mills have nothing to do with each other.
func TestMillsApart(t *testing.T) {
	l := []mill.Entry{{Text: "a", Out: out("1")}, {Text: "b", Out: out("1")}}
	m, n := with(t, l...), with(t, l...)
	m.Sum("a")
	n.Sum("b")
	checkTwins(t, "one", m, "", "", false)
	checkTwins(t, "other", n, "", "", false)
	checkCounts(t, "one", m, false, 1)
	checkCounts(t, "third", mill.New(), false, 0)
}

// Promise 3.4.
func TestMillThatWasNotCreated(t *testing.T) {
	var none *mill.Mill
	for name, m := range map[string]*mill.Mill{"nil": none, "zero": {}, "new(Mill)": new(mill.Mill)} {
		for range 2 {
			if m.Sum("a") != "" || m.Tag("k", "a") != "" || m.Stream("k", "a", 40) != "" || m.Veil("k", "a", "abc") != "" {
				t.Errorf("%s: a hash, a tag or a stream is not empty", name)
			}
			if m.Sum("") != "" || m.Tag("", "") != "" || m.Stream("", "", 0) != "" || m.Veil("", "", "") != "" {
				t.Errorf("%s: a hash, a tag or a stream of nothing is not empty", name)
			}
			checkTwins(t, name, m, "", "", false)
			checkCounts(t, name, m, false, 0)
		}
	}
}

// Promise 3.5.
func TestDifferentStringsHaveDifferentHashes(t *testing.T) {
	m := mill.New()
	seen := map[string]string{}
	for _, s := range texts() {
		h := m.Sum(s)
		if other, ok := seen[h]; ok && other != s {
			t.Errorf("%q and %q have the same hash", other, s)
		}
		seen[h] = s
	}
	checkTwins(t, "all", m, "", "", false)
	checkCounts(t, "all", m, false, len(texts()))
	if sha.Sum("abc") != m.Sum("abc") {
		t.Errorf("Sum(abc) is not that of sha")
	}
}
