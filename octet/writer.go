package octet

// Writer appends encodings one behind the other; its zero value is empty. A nil writer takes nothing, and has nothing to give.
type Writer struct {
	last *piece
	size int // of all pieces
	bad  bool
}

// piece is what one call appended. A piece is never changed, so that a writer and a copy of it may both go on without touching what the other one wrote.
type piece struct {
	before *piece
	bytes  []byte
}

// Num appends a number.
func (w *Writer) Num(n int) {
	s := Num(n)
	if s == "" {
		w.spoil()
	}
	w.Raw(s)
}

// spoil remembers that something without an encoding was appended.
func (w *Writer) spoil() {
	if w != nil {
		w.bad = true
	}
}

// Text appends a string.
func (w *Writer) Text(s string) {
	w.Num(len(s))
	w.Raw(s)
}

// Texts appends how many strings there are, and them.
func (w *Writer) Texts(l ...string) {
	w.Num(len(l))
	for i := range len(l) {
		w.Text(l[i])
	}
}

// Flag appends a boolean.
func (w *Writer) Flag(is bool) {
	if is {
		w.Raw("\x01")
	} else {
		w.Raw("\x00")
	}
}

// Raw appends bytes as they are.
func (w *Writer) Raw(s string) {
	if w == nil || s == "" {
		return
	}
	w.last = &piece{before: w.last, bytes: []byte(s)}
	w.size += len(s)
}

// All is everything that was appended; false: a number without an encoding was among it.
func (w *Writer) All() (string, bool) {
	if w == nil || w.bad {
		return "", false
	}
	all := make([]byte, w.size)
	first := w.size
	for p := w.last; p != nil; p = p.before {
		first -= len(p.bytes)
		copy(all[first:], p.bytes)
	}
	return string(all), true
}
