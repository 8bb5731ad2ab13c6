package octet_test

import (
	"slices"
	"testing"

	"chartulary/api"
	"chartulary/octet"
)

// Promise 1.5: what was written is read again, whatever stands behind it.
func TestReadWhatWasWritten(t *testing.T) {
	lists := [][]string{nil, {""}, {"x", ""}, {"", "", "\x00"}, slices.Repeat([]string{"\x01\x00"}, 257)}
	for i, c := range numbers {
		list, text, raw, is := lists[i%len(lists)], octet.Text(c.want), "r\x00"+c.want, i%2 == 0
		var w octet.Writer
		w.Num(c.n)
		w.Text(text)
		w.Texts(list...)
		w.Flag(is)
		w.Raw(raw)
		w.Flag(!is)
		w.Num(i)
		s, ok := w.All()
		if !ok {
			t.Fatalf("%d: not written", c.n)
		}
		r := octet.Read(s)
		if n := r.Num(c.n); n != c.n {
			t.Errorf("%d: number %d", c.n, n)
		}
		if got := r.Text(len(text)); got != text {
			t.Errorf("%d: text %q", c.n, got)
		}
		if l := r.Texts(len(list), 2); !slices.Equal(l, list) {
			t.Errorf("%d: texts %q", c.n, l)
		}
		if r.Flag() != is || r.Raw(len(raw)) != raw || r.Flag() == is || r.Num(i) != i {
			t.Errorf("%d: flags, raw bytes, last number", c.n)
		}
		if e := r.End(); e != api.OK {
			t.Errorf("%d: End = %d", c.n, e)
		}
	}
}

// Promise 1.5: every prefix of an encoding is too short.
func TestPrefixesAreShort(t *testing.T) {
	var w octet.Writer
	w.Num(1 << 50)
	w.Text("text")
	w.Texts("a", "", "bc")
	w.Flag(true)
	s, _ := w.All()
	for n := range len(s) {
		r := octet.Read(s[:n])
		r.Num(1 << 50)
		r.Text(4)
		r.Texts(3, 2)
		r.Flag()
		if e := r.End(); e != api.ErrShort {
			t.Errorf("of %d bytes: %d, want %d", n, e, api.ErrShort)
		}
	}
}

// each calls f with every string of at most most bytes of an alphabet.
func each(alphabet string, most int, s string, f func(s string)) {
	f(s)
	if most == 0 {
		return
	}
	for i := range len(alphabet) {
		each(alphabet, most-1, s+alphabet[i:i+1], f)
	}
}

// canonical checks that whatever of s is read as is also written as s.
func canonical(t *testing.T, s string) {
	const most = 1<<56 - 1
	r := octet.Read(s)
	if n := r.Num(most); r.End() == api.OK && octet.Num(n) != s {
		t.Fatalf("%q is read as the number %d", s, n)
	}
	r = octet.Read(s)
	if text := r.Text(most); r.End() == api.OK && octet.Text(text) != s {
		t.Fatalf("%q is read as the text %q", s, text)
	}
	r = octet.Read(s)
	if l := r.Texts(most, most); r.End() == api.OK {
		if got := written(t, func(w *octet.Writer) { w.Texts(l...) }); got != s {
			t.Fatalf("%q is read as the texts %q", s, l)
		}
	}
	r = octet.Read(s)
	if is := r.Flag(); r.End() == api.OK {
		if got := written(t, func(w *octet.Writer) { w.Flag(is) }); got != s {
			t.Fatalf("%q is read as %v", s, is)
		}
	}
}

// Promise 1.5: no other bytes are read as the same values.
func TestOneEncodingEach(t *testing.T) {
	all := make([]byte, 256)
	for i := range all {
		all[i] = byte(i)
	}
	each(string(all), 2, "", func(s string) { canonical(t, s) })
	each("\x00\x01\x02\x03\x07\x08\xff", 6, "", func(s string) { canonical(t, s) })
}
