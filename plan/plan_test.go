package plan_test

import (
	"math"
	"slices"
	"testing"

	"sojourn/api"
	"sojourn/host"
	"sojourn/plan"
	"sojourn/till"
	"sojourn/want"
)

// trip is a booking of all inventories, no two of whose numbers are the same.
var trip = api.Want{Book: 7, Customer: 2, Deadline: 9, Units: [3]int{11, 12, 13}, Price: 50}

// of answers a booking as trip is, of those units.
func of(flight, hotel, car int) api.Want {
	w := trip
	w.Units = [3]int{flight, hotel, car}
	return w
}

// hold, auth and plain answer steps.
func hold(node, book, units int) plan.Ask {
	return plan.Ask{Node: node, Op: api.Op{Kind: api.OpHold, Book: book, Units: units}}
}
func auth(book, customer int, amount int64) plan.Ask {
	return plan.Ask{Node: api.Purse, Op: api.Op{Kind: api.OpAuth, Book: book, Customer: customer, Amount: amount}}
}
func plain(node, kind, book int) plan.Ask {
	return plan.Ask{Node: node, Op: api.Op{Kind: kind, Book: book}}
}

// checkSteps fails if Forward or Back has other steps.
func checkSteps(t *testing.T, w api.Want, forward, back []plan.Ask) {
	t.Helper()
	if got := plan.Forward(w); !slices.Equal(got, forward) {
		t.Errorf("Forward(%+v): %+v, not %+v", w, got, forward)
	}
	if got := plan.Back(w); !slices.Equal(got, back) {
		t.Errorf("Back(%+v): %+v, not %+v", w, got, back)
	}
}

// checkParts fails if w has other parts.
func checkParts(t *testing.T, w api.Want, parts ...int) {
	t.Helper()
	if got := plan.Parts(w); !slices.Equal(got, parts) {
		t.Errorf("Parts(%+v): %d, not %d", w, got, parts)
	}
}

// checkCapture fails if something else is asked.
func checkCapture(t *testing.T, w api.Want, capture plan.Ask) {
	t.Helper()
	if got := plan.Capture(w); got != capture {
		t.Errorf("Capture(%+v): %+v, not %+v", w, got, capture)
	}
}

// Promise 14.1: Parts, Forward, Capture, Back.

// TestExample is the chapter's, and DOC.md's sixth and seventh.
func TestExample(t *testing.T) {
	w := of(1, 0, 2)
	checkParts(t, w, api.Flight, api.Car)
	checkSteps(t, w, []plan.Ask{
		hold(api.Flight, 7, 1),
		hold(api.Car, 7, 2),
		auth(7, 2, 50),
		plain(api.Flight, api.OpConfirm, 7),
		plain(api.Car, api.OpConfirm, 7),
	}, []plan.Ask{
		plain(api.Purse, api.OpVoid, 7),
		plain(api.Car, api.OpRelease, 7),
		plain(api.Flight, api.OpRelease, 7),
	})
	checkCapture(t, w, plain(api.Purse, api.OpCapture, 7))
}

func TestPartsOfAllUnits(t *testing.T) {
	checkParts(t, of(1, 0, 0), 0)
	checkParts(t, of(0, 1, 0), 1)
	checkParts(t, of(0, 0, 1), 2)
	checkParts(t, of(5, 1, 0), 0, 1)
	checkParts(t, of(1, 0, 5), 0, 2)
	checkParts(t, of(0, 5, 1), 1, 2)
	checkParts(t, of(5, 3, 1), 0, 1, 2)
}

// mayBe answers bookings that may be: of each inventory and set of them, and at the edges of each field.
func mayBe() []api.Want {
	all := []api.Want{trip}
	units := []int{0, 1, api.MaxUnits}
	for _, flight := range units {
		for _, hotel := range units {
			for _, car := range units {
				if flight+hotel+car > 0 {
					all = append(all, of(flight, hotel, car))
				}
			}
		}
	}
	least := api.Want{Book: 1, Units: [3]int{0, 0, 1}}
	most := api.Want{Book: api.MaxBook, Customer: api.Customers - 1, Deadline: api.MaxTick, Units: [3]int{api.MaxUnits, api.MaxUnits, api.MaxUnits}, Price: api.MaxPrice}
	free := trip
	free.Price = 0
	return append(all, least, most, free)
}

// TestStepsOfAll: written here over the nodes, one kind behind the other.
func TestStepsOfAll(t *testing.T) {
	for _, w := range mayBe() {
		var parts []int
		var holds, confirms, releases []plan.Ask
		for node, units := range w.Units {
			if units == 0 {
				continue
			}
			parts = append(parts, node)
			holds = append(holds, hold(node, w.Book, units))
			confirms = append(confirms, plain(node, api.OpConfirm, w.Book))
			releases = slices.Insert(releases, 0, plain(node, api.OpRelease, w.Book))
		}
		money := []plan.Ask{auth(w.Book, w.Customer, w.Price)}
		void := []plan.Ask{plain(api.Purse, api.OpVoid, w.Book)}
		checkParts(t, w, parts...)
		checkSteps(t, w, slices.Concat(holds, money, confirms), append(void, releases...))
		checkCapture(t, w, plain(api.Purse, api.OpCapture, w.Book))
	}
}

// wrong answers bookings that may not be: each is trip but for one field, or for its units.
func wrong() []api.Want {
	all := []api.Want{{}, of(0, 0, 0)}
	for _, c := range []struct {
		lo, hi int64
		set    func(w *api.Want, v int64)
	}{
		{1, api.MaxBook, func(w *api.Want, v int64) { w.Book = int(v) }},
		{0, api.Customers - 1, func(w *api.Want, v int64) { w.Customer = int(v) }},
		{0, api.MaxTick, func(w *api.Want, v int64) { w.Deadline = int(v) }},
		{0, api.MaxUnits, func(w *api.Want, v int64) { w.Units[0] = int(v) }},
		{0, api.MaxUnits, func(w *api.Want, v int64) { w.Units[1] = int(v) }},
		{0, api.MaxUnits, func(w *api.Want, v int64) { w.Units[2] = int(v) }},
		{0, api.MaxPrice, func(w *api.Want, v int64) { w.Price = v }},
	} {
		for _, v := range []int64{c.lo - 1, c.hi + 1, -1 << 32, c.lo - 1<<32, c.hi + 1<<42, math.MinInt64, math.MaxInt64} {
			w := trip
			c.set(&w, v)
			all = append(all, w)
		}
	}
	return all
}

func TestWhatMayNotBeHasNoSteps(t *testing.T) {
	for _, w := range wrong() {
		checkParts(t, w)
		checkSteps(t, w, nil, nil)
		checkCapture(t, w, plan.Ask{})
	}
}

// TestAnswersAreTheCallers: what is done with one answer is not seen in another one.
func TestAnswersAreTheCallers(t *testing.T) {
	for _, w := range []api.Want{trip, of(0, 3, 0)} {
		parts, forward, back := plan.Parts(w), plan.Forward(w), plan.Back(w)
		wantParts, wantForward, wantBack := slices.Clone(parts), slices.Clone(forward), slices.Clone(back)
		clear(parts[:cap(parts)])
		clear(forward[:cap(forward)])
		checkSteps(t, w, wantForward, wantBack)
		clear(back[:cap(back)])
		checkSteps(t, w, wantForward, wantBack)
		checkParts(t, w, wantParts...)
	}
}

// Promise 14.2, and T1: what is taken back is all that may have been done, in reverse.

func TestBackIsForwardInReverse(t *testing.T) {
	for _, w := range mayBe() {
		var nodes, backNodes []int
		for _, a := range plan.Forward(w) {
			if !slices.Contains(nodes, a.Node) {
				nodes = append(nodes, a.Node)
			}
		}
		for _, a := range plan.Back(w) {
			backNodes = append(backNodes, a.Node)
		}
		slices.Reverse(nodes)
		if !slices.Equal(nodes, backNodes) {
			t.Errorf("Back(%+v) asks %d, not %d", w, backNodes, nodes)
		}
	}
}

// ledgers are those of the four participants.
type ledgers struct {
	hosts [3]*host.Host
	till  *till.Till
}

// What there is at first: so that any booking gets what it wants.
const (
	room  = api.MaxUnits
	funds = api.MaxPrice
)

// newLedgers answers ledgers without bookings.
func newLedgers(t *testing.T) *ledgers {
	t.Helper()
	l := &ledgers{}
	for node := range l.hosts {
		h, err := host.New(api.Stock{Cap: room})
		if err != api.OK {
			t.Fatalf("host.New: %d", err)
		}
		l.hosts[node] = h
	}
	purse, err := till.New([api.Customers]int64{funds, funds, funds, funds})
	if err != api.OK {
		t.Fatalf("till.New: %d", err)
	}
	l.till = purse
	return l
}

// ask asks the node of a step, and answers what it was told; 0, if there is no such node.
func (l *ledgers) ask(a plan.Ask) int {
	answer := 0
	switch a.Node {
	case api.Flight, api.Hotel, api.Car:
		answer, _ = l.hosts[a.Node].Ask(a.Op, 0)
	case api.Purse:
		answer, _ = l.till.Ask(a.Op)
	}
	return answer
}

// done asks steps in their order, and fails if one is not done.
func (l *ledgers) done(t *testing.T, steps ...plan.Ask) {
	t.Helper()
	for _, a := range steps {
		if answer := l.ask(a); answer != api.Done {
			t.Errorf("%+v: %d", a, answer)
		}
	}
}

// checkBooked fails if not just those units are confirmed, and just that price is taken, of that customer; of a zero Want: nothing.
func (l *ledgers) checkBooked(t *testing.T, w api.Want) {
	t.Helper()
	for node, units := range w.Units {
		s := l.hosts[node].Stock()
		if s.Confirmed() != units || s.Held() != 0 || s.Free() != room-units {
			t.Errorf("node %d: %d confirmed, %d held, %d free, of %d wanted", node, s.Confirmed(), s.Held(), s.Free(), units)
		}
	}
	p := l.till.Purse()
	if p.Takings() != w.Price || p.Reserved() != 0 {
		t.Errorf("purse: %d taken, %d reserved, of %d", p.Takings(), p.Reserved(), w.Price)
	}
	for customer := range api.Customers {
		left := int64(funds)
		if customer == w.Customer {
			left -= w.Price
		}
		if p.Balance(customer) != left {
			t.Errorf("customer %d has %d, not %d", customer, p.Balance(customer), left)
		}
	}
}

func TestAll(t *testing.T) {
	for _, w := range mayBe() {
		l := newLedgers(t)
		l.done(t, plan.Forward(w)...)
		l.done(t, plan.Capture(w))
		l.checkBooked(t, w)
	}
}

// TestOrNothing: it is taken back behind any of its steps, and those that come late do nothing any more.
func TestOrNothing(t *testing.T) {
	for _, w := range mayBe() {
		forward := plan.Forward(w)
		for n := range len(forward) + 1 {
			l := newLedgers(t)
			l.done(t, forward[:n]...)
			l.done(t, plan.Back(w)...)
			l.checkBooked(t, api.Want{})
			for _, a := range slices.Concat(forward[n:], []plan.Ask{plan.Capture(w)}) {
				if answer := l.ask(a); answer != api.Refused {
					t.Errorf("%+v behind Back: %d", a, answer)
				}
			}
			l.checkBooked(t, api.Want{})
		}
	}
}

// TestAllMayBeAsked: a step that a participant may not be asked would be refused for ever.
func TestAllMayBeAsked(t *testing.T) {
	for _, w := range mayBe() {
		for _, a := range slices.Concat(plan.Forward(w), plan.Back(w), []plan.Ask{plan.Capture(w)}) {
			if !want.MayOp(a.Op) {
				t.Errorf("of %+v: %+v", w, a)
			}
		}
	}
}
