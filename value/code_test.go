package value_test

import (
	"encoding/binary"
	"math"
	"strings"
	"testing"

	"chartulary/api"
	"chartulary/value"
)

// eight are the eight bytes of n.
func eight(n uint64) string {
	return string(binary.BigEndian.AppendUint64(nil, n))
}

// encodings are values with what the chapter says that their encodings are.
func encodings() map[api.Value]string {
	long := strings.Repeat("m", 200)
	return map[api.Value]string{
		null():               "\x00",
		flag(false):          "\x01\x01\x00",
		flag(true):           "\x01\x01\x01",
		whole(0):             "\x01\x02\x00\x00\x00\x00\x00\x00\x00\x00",
		whole(1):             "\x01\x02\x00\x00\x00\x00\x00\x00\x00\x01",
		whole(-1):            "\x01\x02\xff\xff\xff\xff\xff\xff\xff\xff",
		whole(-256):          "\x01\x02\xff\xff\xff\xff\xff\xff\xff\x00",
		whole(0x12345678):    "\x01\x02\x00\x00\x00\x00\x12\x34\x56\x78",
		whole(math.MaxInt64): "\x01\x02\x7f\xff\xff\xff\xff\xff\xff\xff",
		whole(math.MinInt64): "\x01\x02\x80\x00\x00\x00\x00\x00\x00\x00",
		float(1):             "\x01\x03\x3f\xf0\x00\x00\x00\x00\x00\x00",
		float(0):             "\x01\x03\x00\x00\x00\x00\x00\x00\x00\x00",
		float(negativeZero):  "\x01\x03\x80\x00\x00\x00\x00\x00\x00\x00",
		float(0.1):           "\x01\x03\x3f\xb9\x99\x99\x99\x99\x99\x9a",
		float(math.Inf(1)):   "\x01\x03\x7f\xf0\x00\x00\x00\x00\x00\x00",
		float(math.Inf(-1)):  "\x01\x03\xff\xf0\x00\x00\x00\x00\x00\x00",
		bits(noNumber):       "\x01\x03\x7f\xf8\x00\x00\x00\x00\x00\x01",
		text(""):             "\x01\x04\x00",
		text("ab"):           "\x01\x04\x01\x02ab",
		text("\x00\xff"):     "\x01\x04\x01\x02\x00\xff",
		text(long):           "\x01\x04\x01\xc8" + long,
	}
}

// Promise 4.2.
func TestBytes(t *testing.T) {
	for v, want := range encodings() {
		if got := value.Bytes(v); got != want {
			t.Errorf("Bytes(%+v) = %x, want %x", v, got, want)
		}
	}
	for _, v := range invalid() {
		if got := value.Bytes(v); got != "" {
			t.Errorf("Bytes(%+v) = %x", v, got)
		}
	}
}

// reads checks what is read of s.
func reads(t *testing.T, s string, want api.Value, err api.Errno) {
	t.Helper()
	if v, e := value.Read(s); v != want || e != err {
		t.Errorf("Read of %.40q = %+v, %d, want %+v, %d", s, v, e, want, err)
	}
}

// Promise 4.2: a part of an encoding is too short, and a longer one is of no form.
func TestRead(t *testing.T) {
	for v, s := range encodings() {
		reads(t, s, v, api.OK)
		for n := range len(s) {
			reads(t, s[:n], api.Value{}, api.ErrShort)
		}
		for _, more := range []string{"\x00", "z", s} {
			reads(t, s+more, api.Value{}, api.ErrForm)
		}
	}
	for _, v := range inOrder() {
		reads(t, value.Bytes(v), v, api.OK)
	}
}

// Promise 4.2: of several errors, octet's first one.
func TestReadErrors(t *testing.T) {
	long := strings.Repeat("m", 201)
	for _, c := range []struct {
		s   string
		err api.Errno
	}{
		{"", api.ErrShort},
		{"\x01", api.ErrShort},
		{"\x02\x01", api.ErrShort},
		{"\x01\x05", api.ErrLong},
		{"\x01\x05\x00", api.ErrLong},
		{"\x01\xff", api.ErrLong},
		{"\x02\x01\x00", api.ErrLong},
		{"\x02\x01\x04\x00", api.ErrLong},
		{"\x07\xff\xff\xff\xff\xff\xff\xff", api.ErrLong},
		{"\x08", api.ErrForm},
		{"\xff\xff", api.ErrForm},
		{"\x01\x00", api.ErrForm},
		{"\x02\x00\x01\x01", api.ErrForm},
		{"\x02\x00\x05", api.ErrForm},
		{"\x01\x01\x02", api.ErrForm},
		{"\x01\x01\xff\x00", api.ErrForm},
		{"\x01\x02\x00\x00\x00\x00\x00\x00\x00", api.ErrShort},
		{"\x01\x03\x7f\xf8\x00\x00\x00\x00\x00", api.ErrShort},
		{"\x01\x04\x01\xc9" + long, api.ErrLong},
		{"\x01\x04\x01\xc9", api.ErrLong},
		{"\x01\x04\x01\xc8" + long, api.ErrForm},
		{"\x01\x04\x01\xc8" + long[:199], api.ErrShort},
		{"\x01\x04\x01\xc9" + long + "z", api.ErrLong},
		{"\x01\x04\x02\x00\x02ab", api.ErrForm},
		{"\x01\x04\x01\x00", api.ErrForm},
		{"\x01\x04\x08", api.ErrForm},
		{"\x01\x04\x07\xff\xff\xff\xff\xff\xff\xff", api.ErrLong},
		{"\x01\x04\x02\x01", api.ErrShort},
	} {
		reads(t, c.s, api.Value{}, c.err)
	}
}

// Promise 4.2: of the floats that are no number, only the clean one is read.
func TestReadNoNumber(t *testing.T) {
	reads(t, "\x01\x03\x7f\xf8\x00\x00\x00\x00\x00\x00", api.Value{}, api.ErrForm)
	for _, b := range strangeBits() {
		reads(t, "\x01\x03"+eight(b), api.Value{}, api.ErrForm)
		reads(t, "\x01\x03"+eight(b)+"z", api.Value{}, api.ErrForm)
		reads(t, "\x01\x02"+eight(b), whole(int64(b)), api.OK)
	}
	reads(t, "\x01\x03"+eight(noNumber), bits(noNumber), api.OK)
}

// canonical checks that what is read of s is valid, and written as s again.
func canonical(t *testing.T, s string) {
	t.Helper()
	v, e := value.Read(s)
	if e != api.OK {
		if v != (api.Value{}) {
			t.Fatalf("Read of %q = %+v beside %d", s, v, e)
		}
		return
	}
	if !value.Right(v) || value.Bytes(v) != s {
		t.Fatalf("%q is read as %+v", s, v)
	}
}

// each calls f with every string of most bytes of an alphabet.
func each(alphabet string, most int, s string, f func(s string)) {
	if most == 0 {
		f(s)
		return
	}
	for i := range len(alphabet) {
		each(alphabet, most-1, s+alphabet[i:i+1], f)
	}
}

// Promise 4.4: no two encodings are read as one value.
func TestOneEncodingEach(t *testing.T) {
	for n := range 8 {
		each("\x00\x01\x02\x04\x05\xff", n, "", func(s string) { canonical(t, s) })
	}
	for _, kind := range []string{"\x01\x02", "\x01\x03"} {
		each("\x00\x01\x7f\x80\xf0\xf8\xff", 3, "", func(first string) {
			each("\x00\x01\xff", 5, kind+first, func(s string) { canonical(t, s) })
		})
	}
}
