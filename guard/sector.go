package guard

import (
	"strings"

	"chartulary/api"
	"chartulary/disk"
)

// Where a guarded sector has its parts: a stamp, the number of data bytes, the data, and the stamp again.
const (
	countAt = stampBytes
	dataAt  = countAt + 1
	againAt = api.SectorBytes - stampBytes
)

const (
	// Room is how many data bytes a sector holds.
	Room = againAt - dataAt

	// minStamp is below every stamp, because boots begin with 1.
	minStamp = 1 << bootShift

	zero = "\x00"
)

// guarded is a guarded sector.
func guarded(stamp int, data string) string {
	var b strings.Builder
	b.WriteString(Eight(stamp))
	b.WriteByte(byte(len(data)))
	b.WriteString(data)
	b.WriteString(strings.Repeat(zero, Room-len(data)))
	b.WriteString(Eight(stamp))
	return b.String()
}

// zeros tells whether s has only zero bytes.
func zeros(s string) bool {
	return strings.Trim(s, zero) == ""
}

// Read is the data of sector i, and its stamp. ErrNone: all bytes are zero; ErrTorn: it was not written whole.
func Read(d *disk.Disk, i int) (string, int, api.Errno) {
	s, e := d.Read(i)
	switch {
	case e != api.OK:
		return "", 0, e
	case zeros(s):
		return "", 0, api.ErrNone
	}
	data, stamp, ok := parts(s)
	if !ok {
		return "", 0, api.ErrTorn
	}
	return data, stamp, api.OK
}

// parts is the data and the stamp of a guarded sector; false: it is none, or no guard has the stamp.
func parts(s string) (string, int, bool) {
	stamp, count := Number(s[:countAt]), int(s[countAt])
	if s[:countAt] != s[againAt:] || stamp < minStamp || count > Room {
		return "", 0, false
	}
	end := dataAt + count
	if !zeros(s[end:againAt]) {
		return "", 0, false
	}
	return s[dataAt:end], stamp, true
}
