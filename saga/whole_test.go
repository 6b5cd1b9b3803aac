package saga_test

import (
	"math/rand"
	"testing"

	"sojourn/api"
	"sojourn/host"
	"sojourn/plan"
	"sojourn/saga"
	"sojourn/till"
)

// Promise 15.5, and T6: a saga ends, booked or aborted; booked just if it was decided.

// step is what a call makes of a saga.
type step struct{ from, to api.Saga }

// steps answers what all calls make of s that make something of it.
func steps(s api.Saga) []step {
	var all []step
	add := func(to api.Saga, ok bool) {
		if ok {
			all = append(all, step{s, to})
		}
	}
	asks := append(plan.Forward(s.Want), plan.Capture(s.Want), plan.Ask{})
	for _, a := range append(asks, plan.Back(s.Want)...) {
		for _, answer := range []int{api.Done, api.Refused, 0} {
			add(saga.Answer(s, a, answer))
		}
	}
	add(saga.Cancel(s))
	for _, tick := range []int{0, now + 1, api.MaxTick} {
		add(saga.Late(s, tick))
	}
	return all
}

// reached answers all that a saga of w comes to, and how.
func reached(w api.Want) (map[api.Saga]bool, []step) {
	first, _ := saga.New(w, now)
	seen, left := map[api.Saga]bool{first: true}, []api.Saga{first}
	var all []step
	for len(left) > 0 {
		s := left[0]
		left = left[1:]
		for _, c := range steps(s) {
			all = append(all, c)
			if !seen[c.to] {
				seen[c.to] = true
				left = append(left, c.to)
			}
		}
	}
	return seen, all
}

// goes answers which phases may be behind one, itself among them where it has several steps.
func goes() map[int][]int {
	return map[int][]int{
		api.PForward: {api.PForward, api.PCommit, api.PBack},
		api.PCommit:  {api.PBooked},
		api.PBack:    {api.PBack, api.PAborted},
	}
}

// checkStep fails if a step goes another way than forward, to its decision, or back; or does not come nearer to an end; or has another booking or reason then.
func checkStep(t *testing.T, c step) {
	t.Helper()
	may := false
	for _, phase := range goes()[c.from.Phase] {
		may = may || phase == c.to.Phase && (phase != c.from.Phase || c.to.Step == c.from.Step+1)
	}
	if !may || c.from.Want != c.to.Want || c.from.Since != c.to.Since {
		t.Errorf("%+v becomes %+v", c.from, c.to)
	}
	if c.from.Phase != api.PForward && c.from.Reason != c.to.Reason {
		t.Errorf("%+v has the reason of %+v no more", c.to, c.from)
	}
}

// TestItEnds: of each set of units, over all that may come. As no step goes round, there is an end; and there is none but these.
func TestItEnds(t *testing.T) {
	for units := 1; units < 8; units++ {
		for deadline := range 2 {
			w := of(units&1, units>>1&1, units>>2)
			w.Deadline = deadline
			seen, all := reached(w)
			goesOn := map[api.Saga]bool{}
			for _, c := range all {
				checkStep(t, c)
				goesOn[c.from] = true
			}
			for s := range seen {
				checkMay(t, s)
				if saga.Over(s) == goesOn[s] {
					t.Errorf("%+v: Over %t, and goes on %t", s, saga.Over(s), goesOn[s])
				}
			}
			checkReached(t, seen, w)
		}
	}
}

// checkReached fails if a saga that may be is none that w's comes to.
func checkReached(t *testing.T, seen map[api.Saga]bool, w api.Want) {
	t.Helper()
	for phase := api.PForward; phase <= api.PAborted; phase++ {
		for step := range 10 {
			for reason := range 6 {
				s := api.Saga{Want: w, Phase: phase, Step: step, Reason: reason, Since: now}
				if saga.May(s) != seen[s] {
					t.Errorf("%+v: May %t, but reached %t", s, saga.May(s), seen[s])
				}
			}
		}
	}
}

// T1, T3 and T6, over three hosts and a till: asks and answers are lost, come twice, late, in any order; some are cancelled, some are late.

// message is an ask on its way, or, if it has an answer, that.
type message struct {
	book, answer int
	ask          plan.Ask
}

// cluster is ledgers, and bookings that are led through their steps.
type cluster struct {
	t        *testing.T
	random   *rand.Rand
	now      int
	hosts    [3]*host.Host
	till     *till.Till
	funds    [api.Customers]int64
	sagas    map[int]api.Saga
	cancels  map[int]bool // who was cancelled in time
	messages []message
}

// newCluster answers a cluster that has too little for all its bookings.
func newCluster(t *testing.T, seed int64) *cluster {
	t.Helper()
	c := &cluster{t: t, random: rand.New(rand.NewSource(seed)), sagas: map[int]api.Saga{}, cancels: map[int]bool{}}
	for node := range c.hosts {
		h, err := host.New(api.Stock{Cap: 4 + c.random.Intn(8), Over: c.random.Intn(3)})
		if err != api.OK {
			t.Fatalf("host.New: %d", err)
		}
		c.hosts[node] = h
	}
	for customer := range c.funds {
		c.funds[customer] = c.random.Int63n(40)
	}
	purse, err := till.New(c.funds)
	if err != api.OK {
		t.Fatalf("till.New: %d", err)
	}
	c.till = purse
	return c
}

// accept lets bookings be there.
func (c *cluster) accept(count int) {
	for book := 1; book <= count; book++ {
		w := api.Want{Book: book, Customer: c.random.Intn(api.Customers), Price: c.random.Int63n(20)}
		w.Units[c.random.Intn(3)] = 1 + c.random.Intn(3)
		w.Units[c.random.Intn(3)] = 1 + c.random.Intn(3)
		if c.random.Intn(3) == 0 {
			w.Deadline = 1 + c.random.Intn(80)
		}
		s, err := saga.New(w, c.now)
		if err != api.OK {
			c.t.Fatalf("New(%+v): %d", w, err)
		}
		c.sagas[book] = s
	}
}

// does asks a participant, and answers what it was told.
func (c *cluster) does(a plan.Ask) int {
	if a.Node == api.Purse {
		answer, _ := c.till.Ask(a.Op)
		return answer
	}
	answer, _ := c.hosts[a.Node].Ask(a.Op, c.now)
	return answer
}

// put lets the booking be s, and fails if it was over, or decided, or taken back, and is something else now.
func (c *cluster) put(book int, s api.Saga, changed bool) {
	c.t.Helper()
	was := c.sagas[book]
	if changed != (s != was) {
		c.t.Errorf("%+v becomes %+v: %t", was, s, changed)
	}
	if changed {
		checkStep(c.t, step{was, s})
	}
	if saga.Over(was) && saga.Tells(s) != saga.Tells(was) {
		c.t.Errorf("%+v tells %d, not %d any more", s, saga.Tells(s), saga.Tells(was))
	}
	c.sagas[book] = s
}

// take gives a message to whom it is for.
func (c *cluster) take(m message) {
	if m.answer == 0 {
		m.answer = c.does(m.ask)
		c.messages = append(c.messages, m)
		return
	}
	s, ok := saga.Answer(c.sagas[m.book], m.ask, m.answer)
	c.put(m.book, s, ok)
}

// any takes, doubles or loses any message.
func (c *cluster) any() {
	if len(c.messages) == 0 {
		return
	}
	i := c.random.Intn(len(c.messages))
	m := c.messages[i]
	if c.random.Intn(4) > 0 {
		c.messages = append(c.messages[:i], c.messages[i+1:]...)
	}
	if c.random.Intn(8) > 0 {
		c.take(m)
	}
}

// ask lets the booking's next step be on its way.
func (c *cluster) ask(book int) {
	if a, ok := saga.Next(c.sagas[book]); ok {
		c.messages = append(c.messages, message{book: book, ask: a})
	}
}

// cancel cancels the booking.
func (c *cluster) cancel(book int) {
	s, ok := saga.Cancel(c.sagas[book])
	c.cancels[book] = c.cancels[book] || ok
	c.put(book, s, ok)
}

// tick lets it be later, for all.
func (c *cluster) tick() {
	c.now++
	for _, h := range c.hosts {
		h.Sweep(c.now)
	}
	for book := range c.sagas {
		s, ok := saga.Late(c.sagas[book], c.now)
		c.put(book, s, ok)
	}
}

// event lets something happen.
func (c *cluster) event() {
	book := 1 + c.random.Intn(len(c.sagas))
	switch n := c.random.Intn(100); {
	case n < 30:
		c.ask(book)
	case n < 90:
		c.any()
	case n < 91:
		c.cancel(book)
	default:
		c.tick()
	}
}

// finish asks all bookings, one step behind the other, until all are over; and then gives what is on its way still.
func (c *cluster) finish() {
	for book := 1; book <= len(c.sagas); book++ {
		for range 20 {
			if a, ok := saga.Next(c.sagas[book]); ok {
				s, ok := saga.Answer(c.sagas[book], a, c.does(a))
				c.put(book, s, ok)
			}
		}
		if !saga.Over(c.sagas[book]) {
			c.t.Errorf("%+v does not end", c.sagas[book])
		}
	}
	for len(c.messages) > 0 {
		m := c.messages[0]
		c.messages = c.messages[1:]
		c.take(m)
	}
}

// checkRight fails if a ledger has something else of a booking than its saga tells.
func (c *cluster) checkRight(s api.Saga) {
	c.t.Helper()
	decided := s.Phase == api.PCommit || s.Phase == api.PBooked
	for node, units := range s.Want.Units {
		e := c.hosts[node].Stock().Entry(s.Want.Book)
		has := e.State == api.SHeld || e.State == api.SConfirmed
		switch {
		case decided && units > 0 && (e.State != api.SConfirmed || e.Units != units),
			decided && units == 0 && e.State != api.SNone,
			s.Phase == api.PAborted && has,
			has && (e.Units != units || units == 0):
			c.t.Errorf("%+v: %+v at node %d", s, e, node)
		}
	}
	e := c.till.Purse().Entry(s.Want.Book)
	reserved, taken := e.State == api.SAuth, e.State == api.SCaptured
	switch {
	case s.Phase == api.PBooked && !taken,
		s.Phase == api.PCommit && !taken && !reserved,
		!decided && taken,
		s.Phase == api.PAborted && reserved,
		(taken || reserved) && (e.Amount != s.Want.Price || e.Customer != s.Want.Customer):
		c.t.Errorf("%+v: %+v at the purse", s, e)
	}
}

// checkReason fails if a booking was taken back for something that was not.
func (c *cluster) checkReason(s api.Saga) {
	c.t.Helper()
	switch {
	case s.Reason == api.ByCancel && !c.cancels[s.Want.Book],
		s.Reason != api.ByCancel && c.cancels[s.Want.Book],
		s.Reason == api.ByDeadline && (s.Want.Deadline == 0 || c.now < s.Since+s.Want.Deadline),
		s.Reason == api.ByFunds && s.Want.Price == 0:
		c.t.Errorf("at %d, cancelled %t: %+v", c.now, c.cancels[s.Want.Book], s)
	}
}

// check fails if any booking is neither all nor nothing, nor on its way.
func (c *cluster) check() {
	c.t.Helper()
	for _, s := range c.sagas {
		c.checkRight(s)
		c.checkReason(s)
	}
}

// checkMoney fails if customers have not just what they had, less the prices of what is booked.
func (c *cluster) checkMoney() {
	c.t.Helper()
	left := c.funds
	for _, s := range c.sagas {
		if s.Phase == api.PBooked {
			left[s.Want.Customer] -= s.Want.Price
		}
	}
	for customer, amount := range left {
		if got := c.till.Purse().Balance(customer); got != amount {
			c.t.Errorf("customer %d has %d, not %d", customer, got, amount)
		}
	}
}

func TestAllOrNothing(t *testing.T) {
	ends := map[[2]int]int{} // by phase and reason
	for seed := range int64(300) {
		c := newCluster(t, seed)
		c.accept(10)
		for range 600 {
			c.event()
			c.check()
		}
		c.finish()
		c.check()
		c.checkMoney()
		for _, s := range c.sagas {
			ends[[2]int{s.Phase, s.Reason}]++
		}
		if t.Failed() {
			t.Fatalf("seed %d", seed)
		}
	}
	for _, s := range over() {
		if ends[[2]int{s.Phase, s.Reason}] == 0 {
			t.Errorf("no saga ended in phase %d for %d: %v", s.Phase, s.Reason, ends)
		}
	}
	if len(ends) != len(over()) {
		t.Errorf("ends: %v", ends)
	}
}
