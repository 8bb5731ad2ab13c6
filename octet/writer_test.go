package octet_test

import (
	"slices"
	"strings"
	"testing"

	"chartulary/octet"
)

// written is what is written by f into an empty writer.
func written(t *testing.T, f func(w *octet.Writer)) string {
	t.Helper()
	var w octet.Writer
	f(&w)
	s, ok := w.All()
	if !ok {
		t.Fatalf("All: got %q, false; want true", s)
	}
	return s
}

// Promise 1.2.
func TestWriterAppends(t *testing.T) {
	for _, c := range []struct {
		name string
		f    func(w *octet.Writer)
		want string
	}{
		{"nothing", func(w *octet.Writer) {}, ""},
		{"number", func(w *octet.Writer) { w.Num(258) }, "\x02\x01\x02"},
		{"nought", func(w *octet.Writer) { w.Num(0) }, "\x00"},
		{"greatest number", func(w *octet.Writer) { w.Num(1<<56 - 1) }, "\x07\xff\xff\xff\xff\xff\xff\xff"},
		{"text", func(w *octet.Writer) { w.Text("ab") }, "\x01\x02ab"},
		{"empty text", func(w *octet.Writer) { w.Text("") }, "\x00"},
		{"true", func(w *octet.Writer) { w.Flag(true) }, "\x01"},
		{"false", func(w *octet.Writer) { w.Flag(false) }, "\x00"},
		{"raw", func(w *octet.Writer) { w.Raw("\x00\xffab") }, "\x00\xffab"},
		{"empty raw", func(w *octet.Writer) { w.Raw("") }, ""},
		{"no texts", func(w *octet.Writer) { w.Texts() }, "\x00"},
		{"nil texts", func(w *octet.Writer) { w.Texts(nil...) }, "\x00"},
		{"one empty text", func(w *octet.Writer) { w.Texts("") }, "\x01\x01\x00"},
		{"texts", func(w *octet.Writer) { w.Texts("x", "", "yz") }, "\x01\x03\x01\x01x\x00\x01\x02yz"},
		{"example 2", func(w *octet.Writer) {
			w.Num(5)
			w.Text("ab")
			w.Flag(true)
			w.Texts("x", "")
		}, "\x01\x05\x01\x02ab\x01\x01\x02\x01\x01x\x00"},
	} {
		if got := written(t, c.f); got != c.want {
			t.Errorf("%s: got %q, want %q", c.name, got, c.want)
		}
	}
}

// Promise 1.2: many strings, whose number needs two bytes.
func TestWriterManyTexts(t *testing.T) {
	l := slices.Repeat([]string{"q"}, 300)
	got := written(t, func(w *octet.Writer) { w.Texts(l...) })
	if want := "\x02\x01\x2c" + strings.Repeat("\x01\x01q", 300); got != want {
		t.Errorf("got %.20q, want %.20q", got, want)
	}
	if !slices.Equal(l, slices.Repeat([]string{"q"}, 300)) {
		t.Error("the list was changed")
	}
}

// Promise 1.2: long strings, whose length needs two bytes or three.
func TestWriterLongTexts(t *testing.T) {
	a256, a65536 := strings.Repeat("a", 256), strings.Repeat("a", 65536)
	got := written(t, func(w *octet.Writer) {
		w.Text(a256)
		w.Text(a65536)
		w.Texts(a65536, a256)
		w.Raw(a256)
	})
	one, other := "\x02\x01\x00"+a256, "\x03\x01\x00\x00"+a65536
	if got != one+other+"\x01\x02"+other+one+a256 {
		t.Errorf("got %d bytes, beginning with %.20q", len(got), got)
	}
}

// Promise 1.2: All takes nothing away.
func TestWriterGoesOn(t *testing.T) {
	var w octet.Writer
	want := ""
	for n := range 600 {
		w.Num(n)
		w.Raw("-")
		want += octet.Num(n) + "-"
		for range 2 {
			if got, ok := w.All(); got != want || !ok {
				t.Fatalf("after %d: got %.20q, %v", n, got, ok)
			}
		}
	}
}

// Promise 1.2: writers have nothing to do with each other.
func TestWritersApart(t *testing.T) {
	var a, b octet.Writer
	a.Num(-1)
	b.Text("b")
	if s, ok := b.All(); s != "\x01\x01b" || !ok {
		t.Errorf("got %q, %v", s, ok)
	}
}

// Promise 1.2: a number without an encoding spoils everything, before and after it.
func TestWriterSpoilt(t *testing.T) {
	for _, n := range unwritable {
		var w octet.Writer
		w.Text("before")
		w.Num(n)
		if s, ok := w.All(); s != "" || ok {
			t.Errorf("%d: got %q, %v", n, s, ok)
		}
		w.Num(1)
		w.Text("after")
		w.Texts("x")
		w.Flag(true)
		w.Raw("z")
		if s, ok := w.All(); s != "" || ok {
			t.Errorf("%d, and more: got %q, %v", n, s, ok)
		}
	}
}

// P1: nothing panics, a nil writer neither.
func TestNilWriter(t *testing.T) {
	var w *octet.Writer
	w.Num(1)
	w.Num(-1)
	w.Text("a")
	w.Texts("a", "b")
	w.Texts()
	w.Flag(true)
	w.Raw("a")
	if s, _ := w.All(); s != "" {
		t.Errorf("got %q", s)
	}
}
