package back_test

import (
	"math"
	"testing"

	"sojourn/api"
	"sojourn/back"
	"sojourn/plan"
	"sojourn/saga"
)

// checkWait fails if it is another one.
func checkWait(t *testing.T, tries, want int) {
	t.Helper()
	if got := back.Wait(tries); got != want {
		t.Errorf("Wait(%d): %d, not %d", tries, got, want)
	}
}

// checkDue fails if it is otherwise.
func checkDue(t *testing.T, now, sent, tries int, want bool) {
	t.Helper()
	if got := back.Due(now, sent, tries); got != want {
		t.Errorf("Due(%d, %d, %d): %t, not %t", now, sent, tries, got, want)
	}
}

// checkMost fails if it is another one.
func checkMost(t *testing.T, n, want int) {
	t.Helper()
	if got := back.Most(n); got != want {
		t.Errorf("Most(%d): %d, not %d", n, got, want)
	}
}

// Promise 16.1: Wait, Due.

// TestExample is the chapter's.
func TestExample(t *testing.T) {
	checkWait(t, 1, 4)
	checkWait(t, 9, 32)
}

func TestWait(t *testing.T) {
	for i, want := range []int{4, 8, 16, 32, 32, 32} {
		checkWait(t, i+1, want)
	}
	for tries := 4; tries <= 10000; tries++ {
		checkWait(t, tries, 32)
	}
}

// TestWaitOfManyTries: at those that a shift, or a smaller kind of integer, would lose.
func TestWaitOfManyTries(t *testing.T) {
	for bits := 3; bits < 63; bits++ {
		for d := -1; d <= 1; d++ {
			checkWait(t, 1<<bits+d, 32)
		}
	}
	checkWait(t, math.MaxInt-1, 32)
	checkWait(t, math.MaxInt, 32)
}

// belowOne answers tries that there are not, some of which are more in a smaller kind of integer.
func belowOne() []int {
	return []int{0, -1, -2, -3, -1000, 1 - 1<<8, 1 - 1<<32, 2 - 1<<40, math.MinInt + 1, math.MinInt}
}

func TestWaitOfNoTries(t *testing.T) {
	for _, tries := range belowOne() {
		checkWait(t, tries, 0)
	}
}

func TestDue(t *testing.T) {
	for tries, wait := range map[int]int{1: 4, 2: 8, 3: 16, 4: 32, 5: 32, 100: 32, math.MaxInt: 32} {
		for _, sent := range []int{0, 1, 100, api.MaxTick - wait} {
			for _, ticks := range []int{0, 1, wait - 1} {
				checkDue(t, sent+ticks, sent, tries, false)
			}
			for _, ticks := range []int{wait, wait + 1, 2 * wait, api.MaxTick} {
				checkDue(t, sent+ticks, sent, tries, true)
			}
		}
	}
}

// TestDueOfNoTries: what was never tried waits for nothing.
func TestDueOfNoTries(t *testing.T) {
	for _, tries := range belowOne() {
		for _, sent := range []int{0, 1, 100, api.MaxTick, math.MaxInt - 1} {
			checkDue(t, sent, sent, tries, true)
			checkDue(t, sent+1, sent, tries, true)
			checkDue(t, sent-1, sent, tries, false)
			checkDue(t, 0, sent, tries, sent == 0)
		}
	}
}

func TestDueBeforeItWasSent(t *testing.T) {
	for _, tries := range []int{0, 1, 4, math.MaxInt} {
		checkDue(t, 99, 100, tries, false)
		checkDue(t, 0, 100, tries, false)
		checkDue(t, 0, api.MaxTick, tries, false)
		checkDue(t, 0, math.MaxInt, tries, false)
		checkDue(t, math.MaxInt-1, math.MaxInt, tries, false)
	}
}

// TestDueOfTimesBelow0: whatever they are from each other.
func TestDueOfTimesBelow0(t *testing.T) {
	below := []int{-1, -2, -1000, 1 - 1<<32, math.MinInt + 1, math.MinInt}
	for _, tries := range []int{math.MinInt, 0, 1, 4, math.MaxInt} {
		for _, sent := range below {
			for _, now := range append([]int{0, 1, 100, api.MaxTick, math.MaxInt}, below...) {
				checkDue(t, now, sent, tries, false)
				checkDue(t, sent, now, tries, false)
			}
		}
	}
}

func TestDueAtTheLastTimes(t *testing.T) {
	checkDue(t, math.MaxInt, 0, 1, true)
	checkDue(t, math.MaxInt, math.MaxInt-31, 4, false)
	checkDue(t, math.MaxInt, math.MaxInt-32, 4, true)
	checkDue(t, math.MaxInt, math.MaxInt, 1, false)
}

// Promise 16.2: Most.

func TestMost(t *testing.T) {
	for n, want := range []int{0, 4, 12, 28, 60, 92, 124} {
		checkMost(t, n, want)
	}
	for n := 3; n <= 1000; n++ {
		checkMost(t, n, 28+32*(n-3))
	}
}

func TestMostOfTooMany(t *testing.T) {
	const most = 28 + 32*997
	for _, n := range []int{1000, 1001, 1002, 2000, 1 << 20, 1<<32 + 1, math.MaxInt - 1, math.MaxInt} {
		checkMost(t, n, most)
	}
}

func TestMostOfNone(t *testing.T) {
	for _, n := range belowOne() {
		checkMost(t, n, 0)
	}
}

// Promise 16.3: nothing is sent too often, nothing too seldom.

// sends answers at which ticks something is sent that is never answered, by one that looks at each tick.
func sends(from, to int) []int {
	l := []int{from}
	for now := from; now <= to; now++ {
		if back.Due(now, l[len(l)-1], len(l)) {
			l = append(l, now)
		}
	}
	return l
}

func TestWhenItIsSentAgain(t *testing.T) {
	for _, from := range []int{0, 7, api.MaxTick - 10000} {
		l := sends(from, from+10000)
		if len(l) != 315 { // at 0, 4, 12, then at 28 and 311 times more, each 32 ticks behind
			t.Errorf("from %d on it is sent %d times", from, len(l))
		}
		for i, at := range l {
			if at != from+back.Most(i) {
				t.Errorf("from %d on it is sent for the %dth time at %d, not %d behind", from, i+1, at, back.Most(i))
			}
		}
	}
}

// TestNeitherTooOftenNorTooSeldom: it waits longer each time until it waits longest, so that even one who is back soon, or has been away for long, is asked in at most 32 ticks.
func TestNeitherTooOftenNorTooSeldom(t *testing.T) {
	l := sends(0, 10000)
	wait := 0
	for i, at := range l[1:] {
		last := wait
		wait = at - l[i]
		if wait < api.Again || wait > api.Slowest || wait < last {
			t.Errorf("%d ticks pass, behind %d", wait, last)
		}
	}
}

// TestDueStaysSo: who looks late, as it was down, finds it due.
func TestDueStaysSo(t *testing.T) {
	for tries := range 10 {
		was := false
		for now := range 200 {
			is := back.Due(now, 5, tries)
			if was && !is {
				t.Errorf("Due(%d, 5, %d) is so no more", now, tries)
			}
			was = is
		}
		if !was {
			t.Errorf("Due(199, 5, %d): it never is", tries)
		}
	}
}

// Theorem T5, as far as sending goes: it ends.

// lead leads s from 0 to limit at most. Of each step so many tries are lost, the next one comes through; the answer of that number, from 0 on, is a refusal. It answers what comes of s, and when.
func lead(s api.Saga, lost, refused, limit int) (api.Saga, int) {
	now, sent, tries, answers := 0, 0, 1, 0
	for !saga.Over(s) && now < limit {
		switch {
		case tries > lost:
			answer := api.Done
			if answers == refused {
				answer = api.Refused
			}
			a, _ := saga.Next(s)
			s, _ = saga.Answer(s, a, answer)
			sent, tries, answers = now, 1, answers+1
		case back.Due(now, sent, tries):
			sent, tries = now, tries+1
		default:
			now++
		}
	}
	return s, now
}

// TestItEnds: booked, or taken back from any step, in just as many ticks as the tries of its steps take.
func TestItEnds(t *testing.T) {
	w := api.Want{Book: 1, Units: [3]int{1, 0, 2}, Price: 9}
	forward, undo := len(plan.Forward(w)), len(plan.Back(w))
	first, err := saga.New(w, 0)
	if err != api.OK {
		t.Fatalf("saga.New: %d", err)
	}
	for lost := range 6 {
		for refused := -1; refused <= forward; refused++ {
			phase, answers := api.PAborted, refused+1+undo
			switch refused {
			case -1:
				phase, answers = api.PBooked, forward+1
			case forward: // the capture: it is asked until it is done
				phase, answers = api.PBooked, forward+2
			}
			ticks := answers * back.Most(lost)
			if s, at := lead(first, lost, refused, 10000); s.Phase != phase || at != ticks {
				t.Errorf("%d tries lost, answer %d refused: phase %d at %d, not %d at %d", lost, refused, s.Phase, at, phase, ticks)
			}
		}
	}
}
