package journal_test

import (
	"math/rand/v2"
	"slices"
	"testing"

	"chartulary/api"
	"chartulary/disk"
	"chartulary/guard"
	"chartulary/journal"
)

// script appends records until an error occurs; it flushes after those in flushed. It answers how many were appended, and how many were flushed.
func script(j *journal.Journal, records []string, flushed ...int) (int, int) {
	sure := 0
	for k, s := range records {
		if j.Append(s) != api.OK {
			return k, sure
		}
		if slices.Contains(flushed, k) {
			if j.Flush() != api.OK {
				return k + 1, sure
			}
			sure = k + 1
		}
	}
	return len(records), sure
}

// checkReopened checks that a journal has the first ones of records: at least those that are sure, and at most those that were appended.
func checkReopened(t *testing.T, j *journal.Journal, records []string, sure, appended int) bool {
	t.Helper()
	got := j.Records()
	n := len(got)
	if n < sure || n > appended || !slices.Equal(got, records[:n]) || j.Sure() != n || j.Used() != sectorsOf(got) {
		t.Errorf("%.200q, of which %d are sure, in %d sectors; want from %d to %d of %.200q", got, j.Sure(), j.Used(), sure, appended, records)
		return false
	}
	return true
}

// Promise 12.5: at each act, whichever sectors become durable, with torn ones; then the journal goes on.
func TestPowerFails(t *testing.T) {
	records := []string{"one", of(80), of(37), "", of(20), of(100)}
	for acts := range 13 {
		for keep := range uint64(64) {
			for tear := -1; tear < 64*6; tear += 5 {
				d, j := newJournal(t, 14)
				d.Arm(acts, disk.Fall{Keep: keep, Tear: tear})
				appended, sure := script(j, records, 1, 4)
				d.Start()
				if j.Sure() < sure {
					t.Errorf("Sure = %d, want at least %d", j.Sure(), sure)
				}
				sure = j.Sure()
				j = open(t, newGuard(t, d, 2), 2, 14, 9)
				if !checkReopened(t, j, records, sure, appended) {
					t.Fatalf("%d acts, %b, %d", acts, keep, tear)
				}
				want := append(j.Records(), of(60), "end")
				checkAppend(t, j, want[len(want)-2:]...)
				check(t, "Flush", j.Flush(), api.OK)
				checkRecords(t, open(t, newGuard(t, d, 3), 2, 14, 9), 14, len(want), want)
			}
		}
	}
}

// Promise 12.5: a sector that is torn after every byte.
func TestTornSectors(t *testing.T) {
	for pending := range 3 {
		for byteOf := range 64 {
			d, j := newJournal(t, 12)
			checkAppend(t, j, "one")
			check(t, "Flush", j.Flush(), api.OK)
			checkAppend(t, j, of(100))
			d.Crash(disk.Fall{Keep: 7 &^ (1 << pending), Tear: pending*64 + byteOf})
			d.Start()
			checkRecords(t, open(t, newGuard(t, d, 2), 2, 12, 9), 12, 1, []string{"one"})
		}
	}
}

// Promises 12.2 and 12.5: many starts, each of which appends, flushes and lets others flush until the power fails.
func TestManyStarts(t *testing.T) {
	for seed := range uint64(300) {
		r := rand.New(rand.NewPCG(12, seed))
		size := 20 + r.IntN(200)
		d := newDisk(t, size+5)
		var last, next []string // what is durable, and what has followed
		for boot := 1; boot < 15; boot++ {
			g := newGuard(t, d, boot)
			j := open(t, g, 3, size, 7)
			if !checkReopened(t, j, slices.Concat(last, next), len(last), len(last)+len(next)) {
				t.Fatalf("seed %d, boot %d", seed, boot)
			}
			d.Arm(r.IntN(60), disk.Fall{Keep: r.Uint64(), Tear: r.IntN(64*20) - 64})
			last, next = live(t, r, g, j, size)
			check(t, "Start", d.Start(), api.OK)
		}
	}
}

// live uses a journal until an error occurs, and answers the records that are durable then, and those that followed them.
func live(t *testing.T, r *rand.Rand, g *guard.Guard, j *journal.Journal, size int) ([]string, []string) {
	t.Helper()
	last, next := j.Records(), []string(nil)
	var e api.Errno
	for e == api.OK {
		checkRecords(t, j, size, len(last), slices.Concat(last, next))
		switch r.IntN(6) {
		case 0:
			e = j.Flush()
		case 1:
			e = g.Flush()
		case 2:
			_, e = g.Put(r.IntN(3), "other")
			continue
		case 3:
			check(t, "Append", j.Append(of(6001+r.IntN(100))), api.ErrLong)
			continue
		default:
			s := of(r.IntN(150))
			full := sectorsOf([]string{s}) > j.Left()
			e = j.Append(s)
			if full {
				check(t, "Append", e, api.ErrFull)
				e = g.Flush()
				break
			}
			next = append(next, s)
			continue
		}
		if e == api.OK {
			last, next = slices.Concat(last, next), nil
		}
	}
	check(t, "the last call", e, api.ErrDown)
	return last, next
}
