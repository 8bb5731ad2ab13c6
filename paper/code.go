package paper

import (
	"chartulary/api"
	"chartulary/octet"
	"chartulary/value"
)

// valueBytes is how many bytes the encoding of a value may have.
const valueBytes = api.MaxText + 8

// Bytes is the encoding of p, or the error of Check.
func Bytes(p api.Paper) (string, api.Errno) {
	if e := Check(p); e != api.OK {
		return "", e
	}
	p = Tidy(p)
	var w octet.Writer
	w.Text(p.ID)
	w.Num(p.Class)
	w.Num(len(p.Fields))
	for _, f := range p.Fields {
		w.Text(f.Name)
		w.Text(value.Bytes(f.Value))
	}
	s, _ := w.All()
	return s, api.OK
}

// Read is the tidy paper with an encoding.
func Read(s string) (api.Paper, api.Errno) {
	r := octet.Read(s)
	p := api.Paper{ID: r.Text(api.MaxID), Class: r.Num(api.MaxClasses - 1)}
	for range r.Num(api.MaxFields) {
		p.Fields = append(p.Fields, readField(r))
	}
	if e := r.End(); e != api.OK {
		return api.Paper{}, e
	}
	// What octet reads may still be out of order, or no paper at all.
	if again, e := Bytes(p); e != api.OK || again != s {
		return api.Paper{}, api.ErrForm
	}
	return p, api.OK
}

// readField reads a field. An error in its value is the reader's from then on.
func readField(r *octet.Reader) api.Field {
	f := api.Field{Name: r.Text(api.MaxName)}
	v, e := value.Read(r.Text(valueBytes))
	r.Fail(e)
	f.Value = v
	return f
}
