package policy_test

import (
	"math"
	"testing"

	"chartulary/policy"
)

// longest is the longest retention period, and latest the greatest time.
const (
	longest = 1073741824
	latest  = 1099511627776
)

// The chapter's number.
func TestConstant(t *testing.T) {
	if policy.MaxPeriod != longest {
		t.Errorf("MaxPeriod = %d", policy.MaxPeriod)
	}
}

// Promise 15.1.
func TestRight(t *testing.T) {
	for _, p := range []policy.Policy{
		{},
		{0, 1, 2, 3, 4, 5, 6, 7},
		{longest, longest, longest, longest, longest, longest, longest, longest},
		{longest, 0, longest - 1, 0, 1, 0, longest / 2},
	} {
		if !p.Right() {
			t.Errorf("%v is not right", p)
		}
	}
}

// Promise 15.1: one period that is wrong is enough, whatever its class.
func TestRightOfEachPeriod(t *testing.T) {
	for _, base := range []policy.Policy{{}, {1, 2, 3, 4, 5, 6, 7, 8}, {longest, longest, longest, longest, longest, longest, longest, longest}} {
		for class := range 8 {
			for _, n := range []int{math.MinInt, -1 << 32, -longest, -2, -1, 0, 1, 2, 255, longest - 1, longest, longest + 1, 2 * longest, 1 << 32, 1<<32 + 1, latest, math.MaxInt} {
				p := base
				p[class] = n
				if want := n >= 0 && n <= longest; p.Right() != want {
					t.Errorf("Right of %v = %v", p, p.Right())
				}
			}
		}
	}
	if (policy.Policy{-1, -1, -1, -1, -1, -1, -1, -1}).Right() || (policy.Policy{-1, longest + 1}).Right() {
		t.Error("a policy with several wrong periods is right")
	}
}

// checkDeadline checks a deadline; below 0: there is none.
func checkDeadline(t *testing.T, p policy.Policy, class, born, want int) {
	t.Helper()
	ok := want >= 0
	if !ok {
		want = 0
	}
	if at, found := p.Deadline(class, born); at != want || found != ok {
		t.Errorf("Deadline(%d, %d) of %v = %d, %v, want %d, %v", class, born, p, at, found, want, ok)
	}
}

// Promise 15.1: example 2 of the chapter.
func TestDeadlineExample(t *testing.T) {
	p := policy.Policy{1: 5, 2: 10}
	checkDeadline(t, p, 1, 3, 8)
	checkDeadline(t, p, 2, 3, 13)
	checkDeadline(t, p, 0, 3, -1)
}

// Promise 15.1: each class has its own period, and times have their limits.
func TestDeadline(t *testing.T) {
	p := policy.Policy{1, 20, 300, 4000, 50000, 600000, 7000000, longest}
	for class, period := range p {
		for _, born := range []int{0, 1, 2, 7, 1 << 20, latest - 1, latest} {
			checkDeadline(t, p, class, born, born+period)
		}
		for _, born := range []int{math.MinInt, -latest, -period - 1, -period, -1, latest + 1, 2 * latest, math.MaxInt - period, math.MaxInt} {
			checkDeadline(t, p, class, born, -1)
		}
	}
	checkDeadline(t, p, 7, latest, 1100585369600)
}

// Promise 15.1: there are no classes but those from 0 to 7.
func TestDeadlineOfNoClass(t *testing.T) {
	p := policy.Policy{9, 9, 9, 9, 9, 9, 9, 9}
	for _, class := range []int{math.MinInt, -256, -8, -2, -1, 8, 9, 16, 256, 1 << 32, math.MaxInt} {
		for _, born := range []int{-1, 0, 3, latest, latest + 1} {
			checkDeadline(t, p, class, born, -1)
		}
	}
}

// Promise 15.1: a class whose period is less than 1 is retained forever; a policy need not be right for its other classes.
func TestDeadlineOfNoPeriod(t *testing.T) {
	for class := range 8 {
		for _, period := range []int{math.MinInt, -longest, -5, -1, 0} {
			p := policy.Policy{2, 2, 2, 2, 2, 2, 2, 2}
			p[class] = period
			for _, born := range []int{-1, 0, 1, 5, longest, latest, latest + 1} {
				checkDeadline(t, p, class, born, -1)
			}
			checkDeadline(t, p, (class+1)%8, 5, 7)
		}
	}
	checkDeadline(t, policy.Policy{longest + 1}, 0, 6, longest+7)
}
