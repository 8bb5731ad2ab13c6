package octet_test

import (
	"math"
	"slices"
	"strings"
	"testing"

	"chartulary/api"
	"chartulary/octet"
)

// after checks a reader's error and what is left of its bytes.
func after(t *testing.T, what string, r *octet.Reader, err api.Errno, left int) {
	t.Helper()
	if r.Err() != err {
		t.Errorf("%s: error %d, want %d", what, r.Err(), err)
	}
	if r.Left() != left {
		t.Errorf("%s: %d bytes left, want %d", what, r.Left(), left)
	}
}

// Promise 1.3.
func TestReadRaw(t *testing.T) {
	for _, c := range []struct {
		s    string
		n    int
		want string
		err  api.Errno
		left int
	}{
		{"abc", 0, "", api.OK, 3},
		{"abc", 2, "ab", api.OK, 1},
		{"abc", 3, "abc", api.OK, 0},
		{"\x00\xff", 2, "\x00\xff", api.OK, 0},
		{"", 0, "", api.OK, 0},
		{"abc", 4, "", api.ErrShort, 0},
		{"abc", math.MaxInt, "", api.ErrShort, 0},
		{"", 1, "", api.ErrShort, 0},
		{"abc", -1, "", api.ErrArg, 0},
		{"abc", math.MinInt, "", api.ErrArg, 0},
		{"", -1, "", api.ErrArg, 0},
	} {
		r := octet.Read(c.s)
		if got := r.Raw(c.n); got != c.want {
			t.Errorf("Raw(%d) of %q = %q, want %q", c.n, c.s, got, c.want)
		}
		after(t, "Raw of "+c.s, r, c.err, c.left)
	}
}

// Promise 1.3.
func TestReadNum(t *testing.T) {
	for _, c := range numbers {
		r := octet.Read(c.want + "z")
		if got := r.Num(c.n); got != c.n {
			t.Errorf("Num of %q = %d, want %d", c.want, got, c.n)
		}
		after(t, "Num", r, api.OK, 1)
		r = octet.Read(c.want + "z")
		if got := r.Num(c.n - 1); got != 0 {
			t.Errorf("Num(%d) of %q = %d, want 0", c.n-1, c.want, got)
		}
		after(t, "Num above most", r, api.ErrLong, 0)
	}
}

// Promise 1.3: of several errors the one that is named first.
func TestReadNumErrors(t *testing.T) {
	for _, c := range []struct {
		s    string
		most int
		err  api.Errno
	}{
		{"", 9, api.ErrShort},
		{"", -1, api.ErrShort},
		{"\x08", 9, api.ErrForm},
		{"\xff", 9, api.ErrForm},
		{"\x08\x01\x01\x01\x01\x01\x01\x01\x01", math.MaxInt, api.ErrForm},
		{"\x08\x00\x00\x00\x00\x00\x00\x00\x00", math.MaxInt, api.ErrForm},
		{"\x01", 9, api.ErrShort},
		{"\x02\x01", 0, api.ErrShort},
		{"\x02\x00", 9, api.ErrShort},
		{"\x07\x01\x01\x01\x01\x01\x01", math.MaxInt, api.ErrShort},
		{"\x01\x00", 9, api.ErrForm},
		{"\x01\x00", -1, api.ErrForm},
		{"\x02\x00\x05", 9, api.ErrForm},
		{"\x02\x00\xff", 9, api.ErrForm},
		{"\x07\x00\xff\xff\xff\xff\xff\xff", math.MaxInt, api.ErrForm},
		{"\x01\x09", 8, api.ErrLong},
		{"\x00", -1, api.ErrLong},
		{"\x01\x01", math.MinInt, api.ErrLong},
		{"\x07\xff\xff\xff\xff\xff\xff\xff", 1<<56 - 2, api.ErrLong},
	} {
		r := octet.Read(c.s)
		if got := r.Num(c.most); got != 0 {
			t.Errorf("Num(%d) of %q = %d, want 0", c.most, c.s, got)
		}
		after(t, "Num", r, c.err, 0)
	}
}

// Promise 1.3.
func TestReadText(t *testing.T) {
	long := strings.Repeat("m", 300)
	for _, c := range []struct {
		s    string
		most int
		want string
		err  api.Errno
		left int
	}{
		{"\x00", 0, "", api.OK, 0},
		{"\x00z", 5, "", api.OK, 1},
		{"\x01\x02ab", 2, "ab", api.OK, 0},
		{"\x01\x02abz", 9, "ab", api.OK, 1},
		{"\x02\x01\x2c" + long, 300, long, api.OK, 0},
		{"\x02\x01\x2c" + long, 299, "", api.ErrLong, 0},
		{"\x01\x02ab", 1, "", api.ErrLong, 0},
		{"\x00", -1, "", api.ErrLong, 0},
		{"\x01\x03ab", 2, "", api.ErrLong, 0},
		{"\x01\x03ab", 3, "", api.ErrShort, 0},
		{"\x07\xff\xff\xff\xff\xff\xff\xffab", math.MaxInt, "", api.ErrShort, 0},
		{"\x01\x01", 3, "", api.ErrShort, 0},
		{"", 3, "", api.ErrShort, 0},
		{"\x01", 3, "", api.ErrShort, 0},
		{"\x09ab", 3, "", api.ErrForm, 0},
		{"\x01\x00", 3, "", api.ErrForm, 0},
		{"\x02\x00\x01a", 3, "", api.ErrForm, 0},
	} {
		r := octet.Read(c.s)
		if got := r.Text(c.most); got != c.want {
			t.Errorf("Text(%d) of %.20q = %.20q, want %.20q", c.most, c.s, got, c.want)
		}
		after(t, "Text", r, c.err, c.left)
	}
}

// Promise 1.3: with an error no strings are returned, not even those before it.
func TestReadTexts(t *testing.T) {
	for _, c := range []struct {
		s          string
		many, most int
		want       []string
		err        api.Errno
		left       int
	}{
		{"\x00", 0, 0, nil, api.OK, 0},
		{"\x00", 0, -1, nil, api.OK, 0},
		{"\x00z", 4, 4, nil, api.OK, 1},
		{"\x01\x01\x00", 1, 0, []string{""}, api.OK, 0},
		{"\x01\x02\x01\x01x\x00z", 2, 1, []string{"x", ""}, api.OK, 1},
		{"\x01\x03\x01\x01x\x00\x01\x02yz", 9, 9, []string{"x", "", "yz"}, api.OK, 0},
		{"", 2, 1, nil, api.ErrShort, 0},
		{"\x08", 2, 1, nil, api.ErrForm, 0},
		{"\x01\x00", 2, 1, nil, api.ErrForm, 0},
		{"\x01\x03\x00\x00\x00", 2, 1, nil, api.ErrLong, 0},
		{"\x00", -1, 1, nil, api.ErrLong, 0},
		{"\x01\x02\x01\x01x", 2, 1, nil, api.ErrShort, 0},
		{"\x01\x02\x01\x01x\x01\x01", 2, 1, nil, api.ErrShort, 0},
		{"\x01\x02\x01\x01x\x01\x02yz", 2, 1, nil, api.ErrLong, 0},
		{"\x01\x02\x01\x01x\x01\x00", 2, 1, nil, api.ErrForm, 0},
		{"\x01\x03\x01\x01x\x08\x01\x09yz", 3, 1, nil, api.ErrForm, 0},
		{"\x01\x01\x00", 1, -1, nil, api.ErrLong, 0},
		{"\x07\xff\xff\xff\xff\xff\xff\xff\x00\x00", math.MaxInt, 1, nil, api.ErrShort, 0},
	} {
		r := octet.Read(c.s)
		if got := r.Texts(c.many, c.most); !slices.Equal(got, c.want) {
			t.Errorf("Texts(%d, %d) of %q = %q, want %q", c.many, c.most, c.s, got, c.want)
		}
		after(t, "Texts", r, c.err, c.left)
	}
}

// Promise 1.3.
func TestReadFlag(t *testing.T) {
	for _, c := range []struct {
		s    string
		want bool
		err  api.Errno
		left int
	}{
		{"\x00", false, api.OK, 0},
		{"\x01", true, api.OK, 0},
		{"\x01\x02", true, api.OK, 1},
		{"\x00\x01", false, api.OK, 1},
		{"", false, api.ErrShort, 0},
		{"\x02", false, api.ErrForm, 0},
		{"\x03\x01", false, api.ErrForm, 0},
		{"\xff", false, api.ErrForm, 0},
	} {
		r := octet.Read(c.s)
		if got := r.Flag(); got != c.want {
			t.Errorf("Flag of %q = %v, want %v", c.s, got, c.want)
		}
		after(t, "Flag", r, c.err, c.left)
	}
}

// silent checks that every reading method of r returns nothing.
func silent(t *testing.T, what string, r *octet.Reader) {
	t.Helper()
	if s := r.Raw(0); s != "" {
		t.Errorf("%s: Raw(0) = %q", what, s)
	}
	if s := r.Raw(1); s != "" {
		t.Errorf("%s: Raw(1) = %q", what, s)
	}
	if s := r.Raw(-1); s != "" {
		t.Errorf("%s: Raw(-1) = %q", what, s)
	}
	if n := r.Num(math.MaxInt); n != 0 {
		t.Errorf("%s: Num = %d", what, n)
	}
	if s := r.Text(math.MaxInt); s != "" {
		t.Errorf("%s: Text = %q", what, s)
	}
	if l := r.Texts(math.MaxInt, math.MaxInt); len(l) != 0 {
		t.Errorf("%s: Texts = %q", what, l)
	}
	if r.Flag() {
		t.Errorf("%s: Flag = true", what)
	}
	if n := r.Left(); n != 0 {
		t.Errorf("%s: Left = %d", what, n)
	}
}

// Promise 1.4: the first error stays, and nothing is read behind it, though what follows could be.
func TestFirstErrorStays(t *testing.T) {
	for _, follows := range []string{"\x01\x01a\x01\x01b", "\x01\x05abcde", "\x01\x01\x01\x01\x01", "a"} {
		for _, c := range []struct {
			name string
			s    string
			f    func(r *octet.Reader)
			err  api.Errno
		}{
			{"Raw", "", func(r *octet.Reader) { r.Raw(-5) }, api.ErrArg},
			{"Raw too many", "", func(r *octet.Reader) { r.Raw(100) }, api.ErrShort},
			{"Num", "\x08", func(r *octet.Reader) { r.Num(9) }, api.ErrForm},
			{"Num above most", "\x01\x05", func(r *octet.Reader) { r.Num(4) }, api.ErrLong},
			{"Text", "\x01\x02", func(r *octet.Reader) { r.Text(1) }, api.ErrLong},
			{"Text too long", "\x01\x63", func(r *octet.Reader) { r.Text(100) }, api.ErrShort},
			{"Texts", "\x01\x02\x01\x01x\x01\x00", func(r *octet.Reader) { r.Texts(2, 1) }, api.ErrForm},
			{"Flag", "\x02", func(r *octet.Reader) { r.Flag() }, api.ErrForm},
			{"Fail", "", func(r *octet.Reader) { r.Fail(api.ErrTwice) }, api.ErrTwice},
		} {
			r := octet.Read(c.s + follows)
			c.f(r)
			after(t, c.name, r, c.err, 0)
			silent(t, c.name, r)
			r.Fail(api.ErrState)
			after(t, c.name+", and then others", r, c.err, 0)
			if e := r.End(); e != c.err {
				t.Errorf("%s: End = %d, want %d", c.name, e, c.err)
			}
		}
	}
}

// Promise 1.4.
func TestFail(t *testing.T) {
	r := octet.Read("\x01\x07z")
	r.Fail(api.OK)
	after(t, "Fail(OK)", r, api.OK, 3)
	if n := r.Num(7); n != 7 {
		t.Errorf("after Fail(OK): Num = %d", n)
	}
	r.Fail(api.ErrDamage)
	after(t, "Fail", r, api.ErrDamage, 0)
	r.Fail(api.ErrForm)
	r.Fail(api.OK)
	after(t, "Fail again", r, api.ErrDamage, 0)
	silent(t, "Fail", r)
}

// Promise 1.4.
func TestEnd(t *testing.T) {
	r := octet.Read("\x01\x01")
	if r.Err() != api.OK || r.Left() != 2 {
		t.Errorf("at the beginning: %d, %d", r.Err(), r.Left())
	}
	r.Flag()
	if e := r.End(); e != api.ErrForm {
		t.Errorf("with a byte left: End = %d", e)
	}
	after(t, "End with a byte left", r, api.ErrForm, 0)
	silent(t, "End with a byte left", r)

	r = octet.Read("\x01")
	r.Flag()
	for range 2 {
		if e := r.End(); e != api.OK {
			t.Errorf("with no byte left: End = %d", e)
		}
	}
	if r.Flag() || r.End() != api.ErrShort {
		t.Errorf("behind the end: End = %d", r.End())
	}
	if e := octet.Read("").End(); e != api.OK {
		t.Errorf("of no bytes: End = %d", e)
	}
	r = octet.Read("abc")
	r.Raw(-1)
	if e := r.End(); e != api.ErrArg {
		t.Errorf("after an error: End = %d", e)
	}
}

// Promise 1.4.
func TestNilReader(t *testing.T) {
	var r *octet.Reader
	silent(t, "nil", r)
	r.Fail(api.ErrForm)
	r.Fail(api.OK)
	silent(t, "nil, after Fail", r)
	if r.Err() != api.ErrState || r.End() != api.ErrState || r.Err() != api.ErrState {
		t.Errorf("Err = %d, End = %d", r.Err(), r.End())
	}
}

// P1: nothing panics, a reader that Read did not make neither.
func TestZeroReader(t *testing.T) {
	silent(t, "zero", &octet.Reader{})
	r := &octet.Reader{}
	r.Fail(api.ErrForm)
	silent(t, "zero, after Fail", r)
	if e := r.End(); e != api.ErrForm {
		t.Errorf("zero, after Fail: End = %d", e)
	}
}
