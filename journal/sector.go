package journal

import (
	"slices"
	"strings"

	"chartulary/api"
	"chartulary/guard"
)

const (
	// Head is how many bytes of a record its first sector contains.
	Head = 36

	// Rest is how many bytes of a record each further sector contains.
	Rest = 38

	// begins and goesOn are the kinds of sectors: the first one of a record, and a further one.
	begins, goesOn = "\x01", "\x02"

	// lengthBytes is what the length of a record takes, in its first sector.
	lengthBytes = Rest - Head
)

// Need is how many sectors a record of n bytes needs.
func Need(n int) int {
	if n <= Head {
		return 1
	}
	return 2 + (n-Head-1)/Rest
}

// parts are what the sectors of a record contain after their links.
func parts(s string) []string {
	n := guard.Eight(len(s))
	left := n[len(n)-lengthBytes:] + s
	var l []string
	for len(left) > Rest {
		l = append(l, left[:Rest])
		left = left[Rest:]
	}
	return append(l, left)
}

// before is what a sector contains before its part of a record: its kind, and its link. The part is number k of the record.
func before(k, link int) string {
	if k == 0 {
		return begins + guard.Eight(link)
	}
	return goesOn + guard.Eight(link)
}

// last is the stamp of the last sector, to which the next one is linked.
func (j *Journal) last() int {
	if len(j.stamps) == 0 {
		return j.seed
	}
	return j.stamps[len(j.stamps)-1]
}

// write writes a record to the next sectors, and answers their stamps.
func (j *Journal) write(s string) ([]int, api.Errno) {
	var stamps []int
	link := j.last()
	for k, part := range parts(s) {
		stamp, e := j.guard.Put(j.base+len(j.stamps)+k, before(k, link)+part)
		if e != api.OK {
			return nil, e
		}
		stamps = append(stamps, stamp)
		link = stamp
	}
	return stamps, api.OK
}

// next is the connected record in the next sectors, and their stamps; no stamps: there is none.
func (j *Journal) next() (string, []int) {
	part, stamp, ok := j.read(0, j.last())
	if !ok || len(part) < lengthBytes {
		return "", nil
	}
	n := guard.Number(part[:lengthBytes])
	got, stamps := []string{part}, []int{stamp}
	for k := 1; k < Need(n); k++ {
		part, stamp, ok = j.read(k, stamp)
		if !ok {
			return "", nil
		}
		got = append(got, part)
		stamps = append(stamps, stamp)
	}
	s := strings.Join(got, "")[lengthBytes:]
	// Another number of bytes, in all or in a sector, is not what s is written as.
	if n > api.MaxRecord || !slices.Equal(parts(s), got) {
		return "", nil
	}
	return s, stamps
}

// read is part k of the record in the next sectors, and the stamp of its sector; false: there is none with that link.
func (j *Journal) read(k, link int) (string, int, bool) {
	i := len(j.stamps) + k
	if i >= j.size {
		return "", 0, false
	}
	data, stamp, _ := j.guard.Get(j.base + i) // empty, if it is not guarded
	part, ok := strings.CutPrefix(data, before(k, link))
	return part, stamp, ok
}
