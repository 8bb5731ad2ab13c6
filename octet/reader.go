package octet

import (
	"chartulary/api"
)

// Reader decodes what a Writer wrote; after its first error it reads nothing more.
type Reader struct {
	rest []byte // never written to
	err  api.Errno
}

// Read is a reader at the beginning of s.
func Read(s string) *Reader {
	return &Reader{rest: []byte(s)}
}

// Fail remembers an error, unless there is one already.
func (r *Reader) Fail(e api.Errno) {
	if r.Err() == api.OK {
		r.err = e
	}
}

// Err is the first error.
func (r *Reader) Err() api.Errno {
	if r == nil {
		return api.ErrState
	}
	return r.err
}

// next is the next n bytes, still the reader's own; none after an error.
func (r *Reader) next(n int) []byte {
	switch {
	case r.Err() != api.OK:
		return nil
	case n < 0:
		r.Fail(api.ErrArg)
		return nil
	case n > len(r.rest):
		r.Fail(api.ErrShort)
		return nil
	}
	b := r.rest[:n]
	r.rest = r.rest[n:]
	return b
}

// Raw reads n bytes.
func (r *Reader) Raw(n int) string {
	return string(r.next(n))
}

// Num reads a number that is not greater than most.
func (r *Reader) Num(most int) int {
	digits := r.next(r.digits())
	if len(digits) > 0 && digits[0] == 0 {
		r.Fail(api.ErrForm)
	}
	n := 0
	for i := range len(digits) {
		n = n<<8 | int(digits[i])
	}
	if n > most {
		r.Fail(api.ErrLong)
	}
	if r.Err() != api.OK {
		return 0
	}
	return n
}

// digits reads how many bytes a number has.
func (r *Reader) digits() int {
	head := r.next(1)
	if len(head) == 0 {
		return 0
	}
	if head[0] > maxDigits {
		r.Fail(api.ErrForm)
		return 0
	}
	return int(head[0])
}

// Text reads a string of at most so many bytes.
func (r *Reader) Text(most int) string {
	return r.Raw(r.Num(most))
}

// Texts reads at most so many strings, each of at most so many bytes.
func (r *Reader) Texts(many, most int) []string {
	var l []string
	for range r.Num(many) {
		s := r.Text(most)
		if r.Err() != api.OK {
			return nil
		}
		l = append(l, s)
	}
	return l
}

// Flag reads a boolean.
func (r *Reader) Flag() bool {
	b := r.next(1)
	if len(b) == 0 {
		return false
	}
	if b[0] > 1 {
		r.Fail(api.ErrForm)
	}
	return b[0] == 1
}

// Left is how many bytes are left; none after an error.
func (r *Reader) Left() int {
	if r.Err() != api.OK {
		return 0
	}
	return len(r.rest)
}

// End is the first error; that bytes are left is one.
func (r *Reader) End() api.Errno {
	if r.Left() > 0 {
		r.Fail(api.ErrForm)
	}
	return r.Err()
}
