package value

import (
	"chartulary/api"
	"chartulary/octet"
)

// wordBytes is how many bytes an integer or a float has.
const wordBytes = 8

// Bytes is the encoding of a value; empty for one that is not valid.
func Bytes(v api.Value) string {
	if !Right(v) {
		return ""
	}
	var w octet.Writer
	w.Num(v.Kind)
	switch v.Kind {
	case api.Bool:
		w.Flag(v.Flag)
	case api.Int:
		w.Raw(word(uint64(v.Int)))
	case api.Float:
		w.Raw(word(v.Bits))
	case api.Text:
		w.Text(v.Text)
	}
	s, _ := w.All()
	return s
}

// word is the eight bytes of n, the highest first.
func word(n uint64) string {
	var b [wordBytes]byte
	for i := len(b) - 1; i >= 0; i-- {
		b[i] = byte(n)
		n >>= 8
	}
	return string(b[:])
}

// Read is the value with an encoding.
func Read(s string) (api.Value, api.Errno) {
	r := octet.Read(s)
	v := api.Value{Kind: r.Num(api.Text)}
	switch v.Kind {
	case api.Bool:
		v.Flag = r.Flag()
	case api.Int:
		v.Int = int64(readWord(r))
	case api.Float:
		v.Bits = readWord(r)
	case api.Text:
		v.Text = r.Text(api.MaxText)
	}
	if e := r.End(); e != api.OK {
		return api.Value{}, e
	}
	if !Right(v) {
		return api.Value{}, api.ErrForm
	}
	return v, api.OK
}

// readWord reads eight bytes, the highest first.
func readWord(r *octet.Reader) uint64 {
	b := r.Raw(wordBytes)
	var n uint64
	for i := range len(b) {
		n = n<<8 | uint64(b[i])
	}
	return n
}
