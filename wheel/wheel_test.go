package wheel_test

import (
	"fmt"
	"maps"
	"math"
	"math/rand"
	"slices"
	"strings"
	"testing"

	"sojourn/api"
	"sojourn/wheel"
)

// ids are ids of all kinds, rising: any number may be one.
var ids = []int{math.MinInt, math.MinInt + 1, -1 << 32, -2, -1, 0, 1, 2, 1 << 32, math.MaxInt - 1, math.MaxInt}

// ticks are edges of what a clock may show.
var ticks = []int{0, 1, 2, 1<<31 - 1, 1 << 31, 1 << 32, api.MaxTick - 1, api.MaxTick}

// wrongTicks are what no clock shows.
var wrongTicks = []int{-1, -2, api.MaxTick + 1, 1 << 41, -1 << 32, -api.MaxTick, math.MinInt, math.MaxInt}

// newWheel answers a wheel of that time.
func newWheel(t testing.TB, now int) *wheel.Wheel {
	t.Helper()
	w, err := wheel.New(now)
	if w == nil || err != api.OK {
		t.Fatalf("New(%d): %v, %d", now, w, err)
	}
	return w
}

// set sets timers: pairs of an id and a tick.
func set(t testing.TB, w *wheel.Wheel, timers ...[2]int) {
	t.Helper()
	for _, p := range timers {
		if err := w.Set(p[0], p[1]); err != api.OK {
			t.Fatalf("Set(%d, %d): %d", p[0], p[1], err)
		}
	}
}

// checkAt fails if the timer is not due at that tick.
func checkAt(t *testing.T, w *wheel.Wheel, id, at int) {
	t.Helper()
	if got, ok := w.At(id); got != at || !ok {
		t.Errorf("At(%d): %d, %v, not %d", id, got, ok, at)
	}
}

// checkOff fails if there is such a timer.
func checkOff(t *testing.T, w *wheel.Wheel, id int) {
	t.Helper()
	if got, ok := w.At(id); got != 0 || ok {
		t.Errorf("At(%d): %d, %v, not 0, false", id, got, ok)
	}
}

// checkNext fails if the first timer is not due at that tick.
func checkNext(t *testing.T, w *wheel.Wheel, at int) {
	t.Helper()
	if got, ok := w.Next(); got != at || !ok {
		t.Errorf("Next: %d, %v, not %d", got, ok, at)
	}
}

// checkTurn fails if other timers go off.
func checkTurn(t *testing.T, w *wheel.Wheel, now int, off ...int) {
	t.Helper()
	if got := w.Turn(now); !slices.Equal(got, off) {
		t.Errorf("Turn(%d): %v, not %v", now, got, off)
	}
}

// checkNow fails if it is not that time, or there are not so many timers.
func checkNow(t *testing.T, w *wheel.Wheel, now, count int) {
	t.Helper()
	if w.Now() != now || w.Len() != count {
		t.Errorf("Now %d, Len %d, not %d, %d", w.Now(), w.Len(), now, count)
	}
}

// checkNone fails if there is a timer.
func checkNone(t *testing.T, w *wheel.Wheel) {
	t.Helper()
	if at, ok := w.Next(); at != 0 || ok || w.Len() != 0 {
		t.Errorf("Next %d, %v, Len %d, not 0, false, 0", at, ok, w.Len())
	}
}

// told answers all that a wheel tells of itself and of these timers.
func told(w *wheel.Wheel, ids ...int) string {
	var out strings.Builder
	at, ok := w.Next()
	fmt.Fprintf(&out, "now %d, %d timers, next %d %v\n", w.Now(), w.Len(), at, ok)
	for _, id := range ids {
		at, ok := w.At(id)
		fmt.Fprintf(&out, "%d: %d %v\n", id, at, ok)
	}
	return out.String()
}

// Promise 7.1: New.

func TestNewOfTicks(t *testing.T) {
	for _, now := range ticks {
		w := newWheel(t, now)
		checkNow(t, w, now, 0)
		checkNone(t, w)
		checkTurn(t, w, now)
		checkTurn(t, w, api.MaxTick)
		checkNow(t, w, api.MaxTick, 0)
	}
}

func TestNewOfNoTick(t *testing.T) {
	for _, now := range wrongTicks {
		if w, err := wheel.New(now); w != nil || err != api.ErrArg {
			t.Errorf("New(%d): %v, %d", now, w, err)
		}
	}
}

func TestWheelsAreApart(t *testing.T) {
	one, other := newWheel(t, 0), newWheel(t, 0)
	set(t, one, [2]int{1, 5})
	checkNone(t, other)
	set(t, other, [2]int{1, 7})
	checkTurn(t, other, 9, 1)
	checkNow(t, one, 0, 1)
	checkAt(t, one, 1, 5)
	checkTurn(t, one, 9, 1)
}

// Promise 7.1: Set, At, Len.

func TestSetOfIdsAndTicks(t *testing.T) {
	for _, at := range ticks {
		w := newWheel(t, 0)
		for i, id := range ids {
			checkOff(t, w, id)
			set(t, w, [2]int{id, at})
			checkAt(t, w, id, at)
			checkNow(t, w, 0, i+1)
		}
		checkNext(t, w, at)
		checkTurn(t, w, api.MaxTick, ids...)
		checkNone(t, w)
	}
}

func TestSetOfNoTick(t *testing.T) {
	w := newWheel(t, 3)
	for _, at := range wrongTicks {
		if err := w.Set(1, at); err != api.ErrArg {
			t.Errorf("Set(1, %d): %d", at, err)
		}
		checkOff(t, w, 1)
	}
	checkNone(t, w)
	set(t, w, [2]int{1, 5})
	for _, at := range wrongTicks {
		if err := w.Set(1, at); err != api.ErrArg {
			t.Errorf("Set(1, %d) of a timer: %d", at, err)
		}
		checkAt(t, w, 1, 5)
	}
	checkNow(t, w, 3, 1)
	checkTurn(t, w, 5, 1)
}

func TestSetInsteadOfWhenItWas(t *testing.T) {
	for _, at := range []int{0, 9, 10, 14, 15, 16, 24, 25, 26, api.MaxTick} {
		w := newWheel(t, 0)
		set(t, w, [2]int{1, 10}, [2]int{2, 15}, [2]int{3, 25}, [2]int{2, at})
		checkAt(t, w, 2, at)
		checkNow(t, w, 0, 3)
		checkNext(t, w, min(at, 10))
		order := []int{1, 2, 3}
		switch {
		case at < 10:
			order = []int{2, 1, 3}
		case at > 25:
			order = []int{1, 3, 2}
		}
		checkTurn(t, w, api.MaxTick, order...)
		checkNone(t, w)
	}
}

func TestSetManyTimesIsOneTimer(t *testing.T) {
	w := newWheel(t, 0)
	for at := range 1000 {
		set(t, w, [2]int{7, at * 37 % 1000})
		checkNow(t, w, 0, 1)
		checkNext(t, w, at*37%1000)
	}
	checkTurn(t, w, 999*37%1000-1)
	checkTurn(t, w, api.MaxTick, 7)
	checkTurn(t, w, api.MaxTick)
}

func TestSetBehindItsTime(t *testing.T) {
	w := newWheel(t, 100)
	set(t, w, [2]int{1, 100}, [2]int{2, 99}, [2]int{3, 0}, [2]int{4, 101})
	checkNow(t, w, 100, 4)
	checkAt(t, w, 3, 0)
	checkNext(t, w, 0)
	checkTurn(t, w, 100, 3, 2, 1)
	checkNow(t, w, 100, 1)
	set(t, w, [2]int{4, 50})
	checkNext(t, w, 50)
	checkTurn(t, w, 100, 4)
	checkNone(t, w)
}

// Promise 7.1: Off.

func TestOff(t *testing.T) {
	w := newWheel(t, 0)
	if w.Off(1) {
		t.Error("Off of none")
	}
	set(t, w, [2]int{1, 5}, [2]int{2, 3}, [2]int{3, 4})
	if w.Off(4) {
		t.Error("Off of another one")
	}
	checkNow(t, w, 0, 3)
	if !w.Off(2) || w.Off(2) {
		t.Error("Off, and once more")
	}
	checkOff(t, w, 2)
	checkNow(t, w, 0, 2)
	checkNext(t, w, 4)
	checkTurn(t, w, 9, 3, 1)
	if w.Off(1) || w.Off(3) {
		t.Error("Off of one that went off")
	}
	set(t, w, [2]int{2, 20})
	checkAt(t, w, 2, 20)
	checkTurn(t, w, 20, 2)
}

func TestOffAtAllPlaces(t *testing.T) {
	const count = 40
	for gone := range count {
		w := newWheel(t, 0)
		for id := range count {
			set(t, w, [2]int{id, id * 23 % count})
		}
		if !w.Off(gone) {
			t.Fatalf("Off(%d): false", gone)
		}
		checkNow(t, w, 0, count-1)
		for at := range count {
			id := at * 7 % count // 7 times 23 is 1 above 4 times 40
			if id != gone {
				checkNext(t, w, at)
				checkTurn(t, w, at, id)
				continue
			}
			checkOff(t, w, id)
			checkTurn(t, w, at)
		}
		checkNone(t, w)
	}
}

// Promise 7.1: Next.

func TestNext(t *testing.T) {
	w := newWheel(t, 0)
	checkNone(t, w)
	set(t, w, [2]int{1, 50})
	checkNext(t, w, 50)
	set(t, w, [2]int{2, 60})
	checkNext(t, w, 50)
	set(t, w, [2]int{3, 40})
	checkNext(t, w, 40)
	checkNext(t, w, 40)
	w.Off(3)
	checkNext(t, w, 50)
	set(t, w, [2]int{1, 70})
	checkNext(t, w, 60)
	checkTurn(t, w, 60, 2)
	checkNext(t, w, 70)
	checkTurn(t, w, 69)
	checkNext(t, w, 70)
	set(t, w, [2]int{4, 0})
	checkNext(t, w, 0)
	w.Off(4)
	w.Off(1)
	checkNone(t, w)
}

// Promise 7.1: Turn, Now.

func TestTurnOfTheChapter(t *testing.T) {
	w := newWheel(t, 0)
	set(t, w, [2]int{1, 5}, [2]int{2, 3})
	checkTurn(t, w, 5, 2, 1)
	checkNow(t, w, 5, 0)
}

func TestTurnAtItsTime(t *testing.T) {
	for _, at := range ticks {
		for _, now := range ticks {
			w := newWheel(t, 0)
			set(t, w, [2]int{1, at})
			if now < at {
				checkTurn(t, w, now)
				checkAt(t, w, 1, at)
				checkNow(t, w, now, 1)
				checkTurn(t, w, at-1)
				checkAt(t, w, 1, at)
			} else {
				checkTurn(t, w, now, 1)
				checkOff(t, w, 1)
				checkNow(t, w, now, 0)
			}
		}
	}
}

func TestTurnOfNoTimeThatMayCome(t *testing.T) {
	w := newWheel(t, 50)
	set(t, w, [2]int{1, 10}, [2]int{2, 49}, [2]int{3, 50}, [2]int{4, api.MaxTick})
	before := told(w, 1, 2, 3, 4)
	for _, now := range append([]int{0, 1, 10, 48, 49}, wrongTicks...) {
		if off := w.Turn(now); len(off) != 0 {
			t.Errorf("Turn(%d): %v", now, off)
		}
		if told(w, 1, 2, 3, 4) != before {
			t.Fatalf("Turn(%d) changed something: %s", now, told(w, 1, 2, 3, 4))
		}
	}
	checkTurn(t, w, 50, 1, 2, 3)
	checkTurn(t, w, api.MaxTick-1)
	checkTurn(t, w, api.MaxTick+1)
	checkTurn(t, w, api.MaxTick, 4)
	checkTurn(t, w, api.MaxTick+1)
	checkNow(t, w, api.MaxTick, 0)
}

func TestTurnToNow(t *testing.T) {
	w := newWheel(t, 7)
	checkTurn(t, w, 7)
	set(t, w, [2]int{1, 7}, [2]int{2, 8})
	checkTurn(t, w, 7, 1)
	checkTurn(t, w, 7)
	set(t, w, [2]int{1, 7})
	checkTurn(t, w, 7, 1)
	checkTurn(t, w, 8, 2)
}

func TestTurnByWhenAndById(t *testing.T) {
	w := newWheel(t, 0)
	backwards := slices.Clone(ids)
	slices.Reverse(backwards)
	for _, id := range backwards {
		set(t, w, [2]int{id, 9})
	}
	checkTurn(t, w, 9, ids...)

	set(t, w, [2]int{5, 20}, [2]int{-5, 30}, [2]int{0, 20}, [2]int{-7, 30}, [2]int{9, 10}, [2]int{3, 20})
	checkTurn(t, w, 30, 9, 0, 3, 5, -7, -5)
}

func TestTurnLeavesWhatIsNotDue(t *testing.T) {
	w := newWheel(t, 0)
	for id := range 100 {
		set(t, w, [2]int{id, 99 - id})
	}
	for now := range 100 {
		checkNext(t, w, now)
		checkTurn(t, w, now, 99-now)
		checkNow(t, w, now, 99-now)
	}
	checkNone(t, w)
}

func TestAnswersAreTheCallers(t *testing.T) {
	w := newWheel(t, 0)
	set(t, w, [2]int{1, 1}, [2]int{2, 2}, [2]int{3, 3}, [2]int{4, 4})
	first := w.Turn(2)
	second := w.Turn(4)
	first[0], first[1] = 77, 78
	first = append(first, 79)
	if !slices.Equal(second, []int{3, 4}) {
		t.Errorf("an answer changed another one: %v", second)
	}
	set(t, w, [2]int{5, 5}, [2]int{6, 6})
	if !slices.Equal(first, []int{77, 78, 79}) || !slices.Equal(second, []int{3, 4}) {
		t.Errorf("a call changed an answer: %v, %v", first, second)
	}
	checkTurn(t, w, 6, 5, 6)
}

// Promise 7.1: of nil; and rule 1: no call panics.

func TestNil(t *testing.T) {
	var none *wheel.Wheel
	for _, n := range append(slices.Clone(ticks), wrongTicks...) {
		if err := none.Set(n, n); err != api.ErrArg {
			t.Errorf("Set(%d, %d): %d", n, n, err)
		}
		if none.Off(n) {
			t.Errorf("Off(%d)", n)
		}
		checkOff(t, none, n)
		checkTurn(t, none, n)
	}
	checkNow(t, none, 0, 0)
	checkNone(t, none)
}

func TestZeroWheel(t *testing.T) {
	var w wheel.Wheel
	checkNow(t, &w, 0, 0)
	checkNone(t, &w)
	checkOff(t, &w, 0)
	checkTurn(t, &w, 0)
	if w.Off(0) {
		t.Error("Off of none")
	}
	set(t, &w, [2]int{1, 5}, [2]int{2, 3})
	checkTurn(t, &w, 5, 2, 1)
	checkNow(t, &w, 5, 0)
}

func TestCopiesDoNoHarm(t *testing.T) {
	w := newWheel(t, 0)
	for id := range 10 {
		set(t, w, [2]int{id, id})
	}
	other := *w
	for id := range 100 {
		set(t, &other, [2]int{id, 100 - id})
		w.Off(id / 2)
		other.Off(id / 3)
		w.Turn(id)
	}
	for _, one := range []*wheel.Wheel{w, &other} {
		one.Turn(api.MaxTick)
		checkNow(t, one, api.MaxTick, 0)
	}
}

// Promise 7.2: once, and in its turn.

func TestEachGoesOffOnce(t *testing.T) {
	random := rand.New(rand.NewSource(72))
	w := newWheel(t, 0)
	const count = 2000
	due := map[int]int{}
	for id := range count {
		due[id] = random.Intn(500)
		set(t, w, [2]int{id, due[id]})
	}
	went := map[int]int{}
	last := -1
	for now := 0; now < 500; now += 1 + random.Intn(3) {
		for _, id := range w.Turn(now) {
			if due[id] > now || due[id] < last {
				t.Fatalf("%d, due at %d, went off at %d behind one of %d", id, due[id], now, last)
			}
			last = due[id]
			went[id]++
		}
	}
	for _, id := range w.Turn(500) {
		went[id]++
	}
	for id := range count {
		if went[id] != 1 {
			t.Errorf("%d went off %d times", id, went[id])
		}
	}
	checkNone(t, w)
}

// plain is timers by the chapter's words: a list by ids, gone through each time.
type plain struct {
	now    int
	timers map[int]int
}

func mayTick(tick int) bool { return tick >= 0 && tick <= api.MaxTick }

func (p *plain) set(id, at int) int {
	if !mayTick(at) {
		return api.ErrArg
	}
	p.timers[id] = at
	return api.OK
}

func (p *plain) off(id int) bool {
	_, ok := p.timers[id]
	delete(p.timers, id)
	return ok
}

func (p *plain) turn(now int) []int {
	if now < p.now || !mayTick(now) {
		return nil
	}
	p.now = now
	var off []int
	for _, id := range slices.Sorted(maps.Keys(p.timers)) {
		if p.timers[id] <= now {
			off = append(off, id)
		}
	}
	slices.SortStableFunc(off, func(a, b int) int { return p.timers[a] - p.timers[b] })
	for _, id := range off {
		delete(p.timers, id)
	}
	return off
}

func (p *plain) told(ids ...int) string {
	var out strings.Builder
	next := 0
	for i, at := range slices.Sorted(maps.Values(p.timers)) {
		if i == 0 {
			next = at
		}
	}
	fmt.Fprintf(&out, "now %d, %d timers, next %d %v\n", p.now, len(p.timers), next, len(p.timers) > 0)
	for _, id := range ids {
		at, ok := p.timers[id]
		fmt.Fprintf(&out, "%d: %d %v\n", id, at, ok)
	}
	return out.String()
}

// someTick answers a tick about now, or anywhere, or none.
func someTick(now int, random *rand.Rand) int {
	switch random.Intn(20) {
	case 0:
		return wrongTicks[random.Intn(len(wrongTicks))]
	case 1:
		return ticks[random.Intn(len(ticks)-2)]
	}
	return now - 5 + random.Intn(25)
}

// step makes a call on both, and answers what was called, and what each answered.
func step(w *wheel.Wheel, p *plain, random *rand.Rand) (string, string, string) {
	id := ids[random.Intn(len(ids))]
	if random.Intn(2) == 0 {
		id = random.Intn(40) - 20
	}
	switch random.Intn(8) {
	case 0:
		return fmt.Sprintf("Off(%d)", id), fmt.Sprint(w.Off(id)), fmt.Sprint(p.off(id))
	case 1:
		now := someTick(p.now, random)
		if now > p.now+20 && mayTick(now) { // not to the end of time at once
			now = p.now + 20
		}
		return fmt.Sprintf("Turn(%d)", now), fmt.Sprint(w.Turn(now)), fmt.Sprint(p.turn(now))
	}
	at := someTick(p.now, random)
	return fmt.Sprintf("Set(%d, %d)", id, at), fmt.Sprint(w.Set(id, at)), fmt.Sprint(p.set(id, at))
}

// anyCalls makes calls beside plain, and answers all that was told.
func anyCalls(t *testing.T, seed int64, count int) string {
	t.Helper()
	random := rand.New(rand.NewSource(seed))
	now := random.Intn(50)
	w, p := newWheel(t, now), &plain{now: now, timers: map[int]int{}}
	known := slices.Clone(ids)
	for id := -20; id < 20; id++ {
		known = append(known, id)
	}
	var out strings.Builder
	for i := range count {
		call, got, want := step(w, p, random)
		if got != want {
			t.Fatalf("seed %d, call %d, %s: %s, not %s", seed, i, call, got, want)
		}
		if told(w, known...) != p.told(known...) {
			t.Fatalf("seed %d, call %d, %s: %s, not %s", seed, i, call, told(w, known...), p.told(known...))
		}
		out.WriteString(call + got + told(w))
	}
	return out.String()
}

func TestAnyCalls(t *testing.T) {
	for seed := range int64(60) {
		anyCalls(t, seed, 300)
	}
}

func TestSameCallsSameAnswers(t *testing.T) {
	for seed := range int64(5) {
		if anyCalls(t, seed, 200) != anyCalls(t, seed, 200) {
			t.Errorf("seed %d: other answers", seed)
		}
	}
}

func TestMuch(t *testing.T) {
	const count = 200000
	random := rand.New(rand.NewSource(7))
	w := newWheel(t, 0)
	for range 3 {
		for id := range count {
			set(t, w, [2]int{id, random.Intn(count)})
		}
	}
	for id := 0; id < count; id += 2 {
		if !w.Off(id) {
			t.Fatalf("Off(%d)", id)
		}
	}
	checkNow(t, w, 0, count/2)
	went := 0
	for now := 0; now < count; now += 100 {
		went += len(w.Turn(now + 99))
	}
	if went != count/2 {
		t.Errorf("%d went off, not %d", went, count/2)
	}
	checkNone(t, w)
}
