package saga_test

import (
	"bytes"
	"encoding/hex"
	"math"
	"math/rand"
	"slices"
	"testing"

	"sojourn/api"
	"sojourn/pack"
	"sojourn/plan"
	"sojourn/saga"
	"sojourn/want"
)

// trip is a booking of two inventories, no two of whose numbers are the same.
var trip = api.Want{Book: 7, Customer: 2, Deadline: 9, Units: [3]int{11, 0, 13}, Price: 50}

// now is when trip was accepted.
const now = 100

// of answers a booking as trip is, of those units.
func of(flight, hotel, car int) api.Want {
	w := trip
	w.Units = [3]int{flight, hotel, car}
	return w
}

// at answers trip's saga as it stands there.
func at(phase, step, reason int) api.Saga {
	return api.Saga{Want: trip, Phase: phase, Step: step, Reason: reason, Since: now}
}

// ask answers a step of trip's that has neither units nor money.
func ask(node, kind int) plan.Ask {
	return plan.Ask{Node: node, Op: api.Op{Kind: kind, Book: 7}}
}

// hold and auth answer trip's other ones.
func hold(node, units int) plan.Ask {
	a := ask(node, api.OpHold)
	a.Op.Units = units
	return a
}
func auth() plan.Ask {
	return plan.Ask{Node: api.Purse, Op: api.Op{Kind: api.OpAuth, Book: 7, Customer: 2, Amount: 50}}
}

// forward and back answer trip's steps, written here by hand.
func forward() []plan.Ask {
	return []plan.Ask{hold(api.Flight, 11), hold(api.Car, 13), auth(), ask(api.Flight, api.OpConfirm), ask(api.Car, api.OpConfirm)}
}
func back() []plan.Ask {
	return []plan.Ask{ask(api.Purse, api.OpVoid), ask(api.Car, api.OpRelease), ask(api.Flight, api.OpRelease)}
}
func capture() plan.Ask { return ask(api.Purse, api.OpCapture) }

// reasons answers those of an abort.
func reasons() []int {
	return []int{api.ByResource, api.ByFunds, api.ByDeadline, api.ByCancel}
}

// open answers all that trip's saga may be on its way, with the step that each asks.
func open() map[api.Saga]plan.Ask {
	all := map[api.Saga]plan.Ask{at(api.PCommit, 0, api.ByNone): capture()}
	for step, a := range forward() {
		all[at(api.PForward, step, api.ByNone)] = a
	}
	for step, a := range back() {
		for _, reason := range reasons() {
			all[at(api.PBack, step, reason)] = a
		}
	}
	return all
}

// over answers all that trip's saga may be in the end.
func over() []api.Saga {
	all := []api.Saga{at(api.PBooked, 0, api.ByNone)}
	for _, reason := range reasons() {
		all = append(all, at(api.PAborted, 0, reason))
	}
	return all
}

// mayBe answers all that trip's saga may be.
func mayBe() []api.Saga {
	all := over()
	for s := range open() {
		all = append(all, s)
	}
	return all
}

// edges answers numbers around those from lo to hi, both the ones within and the ones beyond.
func edges(lo, hi int64) []int64 {
	return []int64{lo, hi, lo/2 + hi/2, lo - 1, hi + 1, 0, -1, -1 << 32, lo - 1<<32, lo + 1<<32, hi + 1<<42, math.MinInt64, math.MaxInt64}
}

// wants answers bookings around trip, of which some may be and others may not: each is trip but for one field, or for its units.
func wants() []api.Want {
	all := []api.Want{{}, trip, of(0, 0, 0), of(1, 0, 0), of(0, 1, 0), of(0, 0, 1), of(1, 1, 1)}
	for _, c := range []struct {
		lo, hi int64
		set    func(w *api.Want, v int64)
	}{
		{1, api.MaxBook, func(w *api.Want, v int64) { w.Book = int(v) }},
		{0, api.Customers - 1, func(w *api.Want, v int64) { w.Customer = int(v) }},
		{0, api.MaxTick, func(w *api.Want, v int64) { w.Deadline = int(v) }},
		{0, api.MaxUnits, func(w *api.Want, v int64) { w.Units[0] = int(v) }},
		{0, api.MaxUnits, func(w *api.Want, v int64) { w.Units[1] = int(v) }},
		{0, api.MaxUnits, func(w *api.Want, v int64) { w.Units[2] = int(v) }},
		{0, api.MaxPrice, func(w *api.Want, v int64) { w.Price = v }},
	} {
		for _, v := range edges(c.lo, c.hi) {
			w := trip
			c.set(&w, v)
			all = append(all, w)
		}
	}
	return all
}

// bytesOf answers the bytes of s, whatever it is, as chapter 15 has them.
func bytesOf(s api.Saga) []byte {
	var w pack.Writer
	for _, v := range []int{s.Want.Book, s.Want.Customer, s.Want.Deadline, s.Want.Units[0], s.Want.Units[1], s.Want.Units[2]} {
		w.Int(int64(v))
	}
	w.Int(s.Want.Price)
	for _, v := range []int{s.Phase, s.Step, s.Reason, s.Since} {
		w.Int(int64(v))
	}
	return w.Bytes()
}

// checkStays fails if a call that changes nothing answers something else than s, false.
func checkStays(t *testing.T, name string, s, got api.Saga, ok bool) {
	t.Helper()
	if got != s || ok {
		t.Errorf("%s of %+v: %+v, %t", name, s, got, ok)
	}
}

// checkGoes fails if a call answers something else than next, true.
func checkGoes(t *testing.T, name string, s, got api.Saga, ok bool, next api.Saga) {
	t.Helper()
	if got != next || !ok {
		t.Errorf("%s of %+v: %+v, %t, not %+v", name, s, got, ok, next)
	}
}

// checkMay fails if s is not taken as one that may be.
func checkMay(t *testing.T, s api.Saga) {
	t.Helper()
	if !saga.May(s) {
		t.Errorf("May(%+v) not", s)
	}
	if saga.Tells(s) == 0 {
		t.Errorf("%+v tells nothing", s)
	}
	if _, ok := saga.Next(s); ok == saga.Over(s) {
		t.Errorf("%+v: Next %t, Over %t", s, ok, saga.Over(s))
	}
	b, err := saga.Put(s)
	if err != api.OK || !bytes.Equal(b, bytesOf(s)) {
		t.Errorf("Put(%+v): %x, %d, not %x", s, b, err, bytesOf(s))
	}
	if got, err := saga.Get(bytesOf(s)); err != api.OK || got != s {
		t.Errorf("Get of %+v: %+v, %d", s, got, err)
	}
}

// checkMayNot fails if any call takes s as one that may be.
func checkMayNot(t *testing.T, s api.Saga) {
	t.Helper()
	if saga.May(s) || saga.Over(s) || saga.Tells(s) != 0 {
		t.Errorf("%+v: May %t, Over %t, Tells %d", s, saga.May(s), saga.Over(s), saga.Tells(s))
	}
	if a, ok := saga.Next(s); ok || a != (plan.Ask{}) {
		t.Errorf("Next(%+v): %+v", s, a)
	}
	for _, a := range append(append(forward(), back()...), capture(), plan.Ask{}) {
		for _, answer := range []int{api.Done, api.Refused} {
			got, ok := saga.Answer(s, a, answer)
			checkStays(t, "Answer", s, got, ok)
		}
	}
	got, ok := saga.Cancel(s)
	checkStays(t, "Cancel", s, got, ok)
	for _, tick := range []int{0, now + 9, api.MaxTick, math.MinInt, math.MaxInt} {
		got, ok = saga.Late(s, tick)
		checkStays(t, "Late", s, got, ok)
	}
	if b, err := saga.Put(s); err != api.ErrArg || len(b) != 0 {
		t.Errorf("Put(%+v): %x, %d", s, b, err)
	}
	if got, err := saga.Get(bytesOf(s)); err != api.ErrBad || got != (api.Saga{}) {
		t.Errorf("Get of %+v: %+v, %d", s, got, err)
	}
}

// check fails if s is not taken as may says.
func check(t *testing.T, s api.Saga, may bool) {
	t.Helper()
	if may {
		checkMay(t, s)
	} else {
		checkMayNot(t, s)
	}
}

// Promise 15.1: New, May.

// TestExample is the chapter's.
func TestExample(t *testing.T) {
	s, err := saga.New(trip, now)
	if err != api.OK || s != at(api.PForward, 0, api.ByNone) {
		t.Fatalf("New: %+v, %d", s, err)
	}
	if a, ok := saga.Next(s); !ok || a != hold(api.Flight, 11) {
		t.Errorf("Next: %+v, %t", a, ok)
	}
}

func TestNew(t *testing.T) {
	for _, w := range wants() {
		for _, tick := range edges(0, api.MaxTick) {
			s, err := saga.New(w, int(tick))
			if !want.May(w) || tick < 0 || tick > api.MaxTick {
				if err != api.ErrArg || s != (api.Saga{}) {
					t.Errorf("New(%+v, %d): %+v, %d", w, tick, s, err)
				}
				continue
			}
			if err != api.OK || s != (api.Saga{Want: w, Phase: 1, Since: int(tick)}) {
				t.Errorf("New(%+v, %d): %+v, %d", w, tick, s, err)
			}
			checkMay(t, s)
		}
	}
}

// TestMay: of each set of units, all phases, steps and reasons around those that may be.
func TestMay(t *testing.T) {
	for units := 1; units < 8; units++ {
		w := of(units&1, units>>1&1, units>>2)
		parts := units&1 + units>>1&1 + units>>2
		for _, deadline := range []int{0, 1, 9} {
			w.Deadline = deadline
			for phase := -2; phase <= 7; phase++ {
				for step := -2; step <= 9; step++ {
					for reason := -2; reason <= 6; reason++ {
						s := api.Saga{Want: w, Phase: phase, Step: step, Reason: reason, Since: now}
						check(t, s, mayStand(s, parts))
					}
				}
			}
		}
	}
}

// mayStand is May of a booking of so many parts, written here phase by phase.
func mayStand(s api.Saga, parts int) bool {
	aborted := s.Reason == api.ByResource || s.Reason == api.ByFunds || s.Reason == api.ByCancel || s.Reason == api.ByDeadline && s.Want.Deadline != 0
	switch s.Phase {
	case api.PForward:
		return s.Step >= 0 && s.Step <= 2*parts && s.Reason == api.ByNone
	case api.PCommit, api.PBooked:
		return s.Step == 0 && s.Reason == api.ByNone
	case api.PBack:
		return s.Step >= 0 && s.Step <= parts && aborted
	case api.PAborted:
		return s.Step == 0 && aborted
	}
	return false
}

// TestMayAtEdges: each part of a saga that may be is moved to its edges, and beyond.
func TestMayAtEdges(t *testing.T) {
	for _, plain := range mayBe() {
		checkMay(t, plain)
		for _, w := range wants() {
			s := plain
			s.Want = w
			timely := plain.Reason != api.ByDeadline || w.Deadline > 0
			if want.May(w) && plain.Step > 1 && w.Units != trip.Units {
				continue // w may have fewer steps
			}
			check(t, s, want.May(w) && timely)
		}
		for _, since := range edges(0, api.MaxTick) {
			s := plain
			s.Since = int(since)
			check(t, s, since >= 0 && since <= api.MaxTick)
		}
		for _, far := range []int{math.MinInt, math.MaxInt, 1 << 32, -1 << 32, 1<<32 + 1} {
			s := plain
			s.Phase += far
			checkMayNot(t, s)
			s = plain
			s.Step += far
			checkMayNot(t, s)
			s = plain
			s.Reason += far
			checkMayNot(t, s)
		}
	}
	checkMayNot(t, api.Saga{})
}

// Promise 15.2: Next, Answer.

func TestNext(t *testing.T) {
	for s, want := range open() {
		if a, ok := saga.Next(s); !ok || a != want {
			t.Errorf("Next(%+v): %+v, %t, not %+v", s, a, ok, want)
		}
	}
	for _, s := range over() {
		if a, ok := saga.Next(s); ok || a != (plan.Ask{}) {
			t.Errorf("Next(%+v): %+v, %t", s, a, ok)
		}
	}
}

// done answers what s is behind Done, written here phase by phase.
func done(s api.Saga) api.Saga {
	switch {
	case s.Phase == api.PForward && s.Step == 4:
		return at(api.PCommit, 0, api.ByNone)
	case s.Phase == api.PCommit:
		return at(api.PBooked, 0, api.ByNone)
	case s.Phase == api.PBack && s.Step == 2:
		return at(api.PAborted, 0, s.Reason)
	}
	return at(s.Phase, s.Step+1, s.Reason)
}

func TestDone(t *testing.T) {
	for s, a := range open() {
		got, ok := saga.Answer(s, a, api.Done)
		checkGoes(t, "Done", s, got, ok, done(s))
	}
}

func TestRefused(t *testing.T) {
	for s, a := range open() {
		got, ok := saga.Answer(s, a, api.Refused)
		switch {
		case s.Phase != api.PForward:
			checkStays(t, "Refused", s, got, ok)
		case s.Step == 2:
			checkGoes(t, "Refused", s, got, ok, at(api.PBack, 0, api.ByFunds))
		default:
			checkGoes(t, "Refused", s, got, ok, at(api.PBack, 0, api.ByResource))
		}
	}
}

// TestStepsOfAll: each set of units goes through all its steps, forward, and back from each of them.
func TestStepsOfAll(t *testing.T) {
	for units := 1; units < 8; units++ {
		w := of(units&1, units>>1&1, units>>2)
		s, _ := saga.New(w, now)
		for _, a := range append(plan.Forward(w), plan.Capture(w)) {
			if gone, ok := saga.Answer(s, a, api.Refused); ok {
				checkAsks(t, gone, api.PAborted, plan.Back(w)...)
			}
			s = checkAsks(t, s, 0, a)
		}
		if s.Phase != api.PBooked {
			t.Errorf("%+v is not booked", s)
		}
	}
}

// checkAsks fails if s does not ask just those, each of which is done; or if it is not in that phase then (0: any). It answers s behind them.
func checkAsks(t *testing.T, s api.Saga, phase int, asks ...plan.Ask) api.Saga {
	t.Helper()
	for _, a := range asks {
		got, ok := saga.Next(s)
		if !ok || got != a {
			t.Errorf("%+v asks %+v, not %+v", s, got, a)
		}
		s, _ = saga.Answer(s, got, api.Done)
	}
	if phase != 0 && s.Phase != phase {
		t.Errorf("%+v is not in phase %d", s, phase)
	}
	return s
}

// TestAnswerToSomethingElse: neither to another step, nor to one that differs in one part.
func TestAnswerToSomethingElse(t *testing.T) {
	others := append(append(forward(), back()...), capture(), plan.Ask{})
	for s, a := range open() {
		near := []plan.Ask{a, a, a, a, a, a}
		near[0].Node++
		near[1].Op.Kind++
		near[2].Op.Book++
		near[3].Op.Units++
		near[4].Op.Customer++
		near[5].Op.Amount++
		for _, other := range append(near, others...) {
			if other == a {
				continue
			}
			for _, answer := range []int{api.Done, api.Refused} {
				got, ok := saga.Answer(s, other, answer)
				checkStays(t, "Answer to something else", s, got, ok)
			}
		}
	}
	for _, s := range over() { // it asks nothing: the zero Ask is not what it asks
		for _, a := range others {
			for _, answer := range []int{api.Done, api.Refused} {
				got, ok := saga.Answer(s, a, answer)
				checkStays(t, "Answer", s, got, ok)
			}
		}
	}
}

func TestNoAnswer(t *testing.T) {
	for s, a := range open() {
		for _, answer := range []int{0, 3, -1, math.MinInt, math.MaxInt, api.Done + 1<<32, api.Refused + 1<<32} {
			got, ok := saga.Answer(s, a, answer)
			checkStays(t, "Answer", s, got, ok)
		}
	}
}

// Promise 15.3: Cancel, Late, Over, Tells.

func TestCancel(t *testing.T) {
	for _, s := range mayBe() {
		got, ok := saga.Cancel(s)
		if s.Phase == api.PForward {
			checkGoes(t, "Cancel", s, got, ok, at(api.PBack, 0, api.ByCancel))
		} else {
			checkStays(t, "Cancel", s, got, ok)
		}
	}
}

func TestLate(t *testing.T) {
	for _, s := range mayBe() {
		for tick, late := range map[int]bool{
			math.MinInt: false, -1: false, 0: false, 9: false, now: false, now + 8: false,
			now + 9: true, now + 10: true, api.MaxTick: true,
			api.MaxTick + 1: false, math.MaxInt: false, now + 9 + 1<<42: false,
		} {
			got, ok := saga.Late(s, tick)
			if late && s.Phase == api.PForward {
				checkGoes(t, "Late", s, got, ok, at(api.PBack, 0, api.ByDeadline))
			} else {
				checkStays(t, "Late", s, got, ok)
			}
		}
	}
}

// TestLateAtEdges: of the Deadline and Since.
func TestLateAtEdges(t *testing.T) {
	for _, c := range []struct {
		since, deadline, tick int
		late                  bool
	}{
		{0, 0, 0, false}, {0, 0, 1, false}, {5, 0, 5, false}, {0, 0, api.MaxTick, false},
		{0, 1, 0, false}, {0, 1, 1, true},
		{5, 1, 5, false}, {5, 1, 6, true},
		{0, api.MaxTick, api.MaxTick - 1, false}, {0, api.MaxTick, api.MaxTick, true},
		{1, api.MaxTick, api.MaxTick, false}, {1, api.MaxTick, api.MaxTick + 1, false},
		{api.MaxTick, 1, api.MaxTick, false}, {api.MaxTick, 1, api.MaxTick + 1, false},
		{api.MaxTick, api.MaxTick, 2 * api.MaxTick, false}, {api.MaxTick, api.MaxTick, math.MaxInt, false},
		{api.MaxTick - 1, 1, api.MaxTick - 1, false}, {api.MaxTick - 1, 1, api.MaxTick, true},
	} {
		w := trip
		w.Deadline = c.deadline
		s, _ := saga.New(w, c.since)
		got, ok := saga.Late(s, c.tick)
		if c.late {
			checkGoes(t, "Late", s, got, ok, api.Saga{Want: w, Phase: api.PBack, Reason: api.ByDeadline, Since: c.since})
		} else {
			checkStays(t, "Late", s, got, ok)
		}
	}
}

// TestLateOfWhatMayNotBe: even where the sum of its times is beyond all numbers.
func TestLateOfWhatMayNotBe(t *testing.T) {
	for _, since := range []int{-1, -9, math.MinInt, math.MaxInt, math.MaxInt - 8, api.MaxTick + 1} {
		for _, deadline := range []int{1, 9, api.MaxTick, math.MaxInt, math.MinInt, -1} {
			s := at(api.PForward, 0, api.ByNone)
			s.Since, s.Want.Deadline = since, deadline
			for _, tick := range []int{0, 9, now, api.MaxTick, math.MinInt, math.MaxInt} {
				got, ok := saga.Late(s, tick)
				checkStays(t, "Late", s, got, ok)
			}
		}
	}
}

func TestOverAndTells(t *testing.T) {
	for s := range open() {
		if saga.Over(s) || saga.Tells(s) != api.CPending {
			t.Errorf("%+v: Over %t, Tells %d", s, saga.Over(s), saga.Tells(s))
		}
	}
	for _, s := range over() {
		tells := api.CAborted
		if s.Phase == api.PBooked {
			tells = api.CBooked
		}
		if !saga.Over(s) || saga.Tells(s) != tells {
			t.Errorf("%+v: Over %t, Tells %d, not %d", s, saga.Over(s), saga.Tells(s), tells)
		}
	}
}

// Promise 15.4: Put, Get.

func TestPutByHand(t *testing.T) {
	least := api.Want{Book: 1, Units: [3]int{0, 0, 1}}
	most := api.Want{Book: 200, Customer: 3, Deadline: 1 << 40, Units: [3]int{1000, 1000, 1000}, Price: 1 << 40}
	for digits, s := range map[string]api.Saga{
		"02000000000200" + "02000000":               {Want: least, Phase: api.PForward},
		"02000000000200" + "04000002":               {Want: least, Phase: api.PCommit, Since: 1},
		"02000000000200" + "0602087e":               {Want: least, Phase: api.PBack, Step: 1, Reason: api.ByCancel, Since: 63},
		"02000000000200" + "0a0004" + "8001":        {Want: least, Phase: api.PAborted, Reason: api.ByFunds, Since: 64},
		"0e04121600" + "1a64" + "080000" + "c801":   {Want: trip, Phase: api.PBooked, Since: now},
		"0e04121600" + "1a64" + "060406" + "c801":   {Want: trip, Phase: api.PBack, Step: 2, Reason: api.ByDeadline, Since: now},
		mostDigits + "020c00" + "808080808040":      {Want: most, Phase: api.PForward, Step: 6, Since: 1 << 40},
		mostDigits + "060602" + "808080808040":      {Want: most, Phase: api.PBack, Step: 3, Reason: api.ByResource, Since: 1 << 40},
		"02000000000200" + "0a0002" + "fe" + "ff01": {Want: least, Phase: api.PAborted, Reason: api.ByResource, Since: 16383},
	} {
		b, err := saga.Put(s)
		if hex.EncodeToString(b) != digits || err != api.OK {
			t.Errorf("Put(%+v): %x, %d, not %s", s, b, err, digits)
		}
		if got, err := saga.Get(b); got != s || err != api.OK {
			t.Errorf("Get(%x): %+v, %d, not %+v", b, got, err, s)
		}
	}
}

// mostDigits: of a Want whose numbers are all the greatest.
const mostDigits = "9003" + "06" + "808080808040" + "d00fd00fd00f" + "808080808040"

// badForms answers, by name, bytes near those of a saga that are another form of them, or none. Its last number is of one byte.
func badForms(good []byte) map[string][]byte {
	last := len(good) - 1
	return map[string][]byte{
		"nil":                nil,
		"nothing":            {},
		"a byte more":        append(slices.Clone(good), 0),
		"a byte ahead":       append([]byte{0}, good...),
		"twice":              slices.Concat(good, good),
		"a longer number":    append(slices.Clone(good[:last]), good[last]|128, 0),
		"a longer first":     slices.Concat([]byte{good[0] | 128, 0}, good[1:]),
		"no end":             append(slices.Clone(good[:last]), good[last]|128),
		"more than 64 bits":  slices.Concat(good[:last], []byte{good[last] | 128}, bytes.Repeat([]byte{128}, 9), []byte{1}),
		"far more than that": slices.Concat(good[:last], []byte{good[last] | 128}, bytes.Repeat([]byte{128}, 999), []byte{1}),
		"64 bits, and one":   slices.Concat(good[:last], []byte{good[last] | 128}, bytes.Repeat([]byte{128}, 8), []byte{2}),
		"no end at all":      bytes.Repeat([]byte{255}, 40),
		"none but 0":         make([]byte, len(good)),
	}
}

func TestGetOfNoForm(t *testing.T) {
	for _, s := range mayBe() {
		s.Since = 5
		good := bytesOf(s)
		for name, b := range badForms(good) {
			checkBad(t, name, b)
		}
		for n := range good {
			checkBad(t, "a beginning", good[:n])
			if n > 0 {
				checkBad(t, "an end", good[n:])
			}
			checkBad(t, "a byte within", slices.Insert(slices.Clone(good), n, 0))
			checkBad(t, "a number that is longer", slices.Replace(slices.Clone(good), n, n+1, good[n]|128, 0))
		}
	}
	w, _ := want.Put(trip)
	checkBad(t, "a Want", w)
}

// checkBad fails if Get takes b.
func checkBad(t *testing.T, name string, b []byte) {
	t.Helper()
	if s, err := saga.Get(b); err != api.ErrBad || s != (api.Saga{}) {
		t.Errorf("%s: Get(%x): %+v, %d", name, b, s, err)
	}
}

// randomSaga answers a saga that may be.
func randomSaga(random *rand.Rand) api.Saga {
	w := api.Want{
		Book:     1 + random.Intn(api.MaxBook),
		Customer: random.Intn(api.Customers),
		Deadline: int(random.Int63n(api.MaxTick+1) >> random.Intn(42)),
		Price:    random.Int63n(api.MaxPrice+1) >> random.Intn(42),
	}
	for i := range w.Units {
		w.Units[i] = random.Intn(api.MaxUnits+1) * random.Intn(2)
	}
	w.Units[random.Intn(3)] = 1 + random.Intn(api.MaxUnits)
	s := api.Saga{Want: w, Phase: 1 + random.Intn(api.PAborted), Since: int(random.Int63n(api.MaxTick+1) >> random.Intn(42))}
	switch s.Phase {
	case api.PForward:
		s.Step = random.Intn(len(plan.Forward(w)))
	case api.PBack:
		s.Step = random.Intn(len(plan.Back(w)))
	}
	if s.Phase == api.PBack || s.Phase == api.PAborted {
		s.Reason = 1 + random.Intn(api.ByCancel)
		if s.Reason == api.ByDeadline && w.Deadline == 0 {
			s.Reason = api.ByCancel
		}
	}
	return s
}

func TestEachComesBack(t *testing.T) {
	random := rand.New(rand.NewSource(15))
	for range 20000 {
		checkMay(t, randomSaga(random))
	}
}

func TestBytesThatAreTakenAreMade(t *testing.T) {
	random := rand.New(rand.NewSource(16))
	for range 50000 {
		b := bytesOf(randomSaga(random))
		for range random.Intn(3) {
			b[random.Intn(len(b))] ^= 1 << random.Intn(8)
		}
		was := bytes.Clone(b)
		if s, err := saga.Get(b); err == api.OK {
			if again, err := saga.Put(s); err != api.OK || !bytes.Equal(again, b) {
				t.Fatalf("%x is taken as %+v, which is %x, %d", b, s, again, err)
			}
		} else if s != (api.Saga{}) || err != api.ErrBad {
			t.Fatalf("Get(%x): %+v, %d", b, s, err)
		}
		if !bytes.Equal(b, was) {
			t.Fatalf("%x became %x", was, b)
		}
	}
}

// TestBytesAreTheCallersOwn: what is done with one answer is not seen in another one.
func TestBytesAreTheCallersOwn(t *testing.T) {
	s := at(api.PBack, 1, api.ByCancel)
	first, _ := saga.Put(s)
	clear(first[:cap(first)])
	checkMay(t, s)
}
