package super

import (
	"chartulary/octet"
)

// mark begins the encoding of every superblock.
const mark = "CHART1"

// bytes is the encoding of a superblock; empty if a number has none.
func (s Super) bytes() string {
	var w octet.Writer
	w.Text(mark)
	for _, n := range s.numbers() {
		w.Num(*n)
	}
	all, _ := w.All()
	return all
}

// read is the superblock with an encoding; false: it is none, or not that of a valid superblock.
func read(data string) (Super, bool) {
	var s Super
	r := octet.Read(data)
	r.Text(len(mark))
	for _, n := range s.numbers() {
		*n = r.Num(MaxGen)
	}
	// Another mark, or bytes that are left, are not in what s is encoded as.
	if !Right(s) || Super.bytes(s) != data {
		return Super{}, false
	}
	return s, true
}
