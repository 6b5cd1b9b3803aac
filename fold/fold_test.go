package fold_test

import (
	"bytes"
	"math"
	"math/rand"
	"slices"
	"testing"

	"sojourn/api"
	"sojourn/fold"
	"sojourn/host"
	"sojourn/pack"
	"sojourn/record"
	"sojourn/saga"
	"sojourn/till"
)

// conf is a cluster no two of whose numbers are the same.
var conf = api.Conf{
	Stocks: [3]api.Stock{{Cap: 5, Over: 1}, {Cap: 7, Over: 0}, {Cap: 2, Over: 3}},
	Funds:  [api.Customers]int64{50, 60, 70, 80},
}

// now is when most records are written.
const now = 100

// trip is a booking of two inventories.
var trip = api.Want{Book: 7, Customer: 2, Deadline: 9, Units: [3]int{1, 0, 2}, Price: 50}

// hold, plain and auth answer operations.
func hold(book, units int) api.Op { return api.Op{Kind: api.OpHold, Book: book, Units: units} }
func plain(kind, book int) api.Op { return api.Op{Kind: kind, Book: book} }
func auth(book, customer int, amount int64) api.Op {
	return api.Op{Kind: api.OpAuth, Book: book, Customer: customer, Amount: amount}
}

// op, sweep and next answer a record of each kind.
func op(o api.Op, answer, now int) api.Record {
	return api.Record{Kind: api.ROp, Now: now, Op: o, Answer: answer}
}
func sweep(now int) api.Record { return api.Record{Kind: api.RSweep, Now: now} }
func next(s api.Saga, now int) api.Record {
	return api.Record{Kind: api.RSaga, Now: now, Saga: s}
}

// begun answers the saga of w, accepted then.
func begun(w api.Want, since int) api.Saga {
	return api.Saga{Want: w, Phase: api.PForward, Since: since}
}

// at answers trip's saga as it stands there.
func at(phase, step, reason int) api.Saga {
	return api.Saga{Want: trip, Phase: phase, Step: step, Reason: reason, Since: now}
}

// of answers a booking as trip is, of another number.
func of(book int) api.Want {
	w := trip
	w.Book = book
	return w
}

// newState answers a node of conf.
func newState(t testing.TB, node int) *fold.State {
	t.Helper()
	s, err := fold.New(node, conf)
	if s == nil || err != api.OK {
		t.Fatalf("New(%d): %v, %d", node, s, err)
	}
	return s
}

// look answers all that is seen of a state.
func look(s *fold.State) []byte {
	var w pack.Writer
	w.Text(string(s.Bytes()))
	for book := range api.MaxBook + 2 {
		e := s.Entry(book)
		for _, v := range []int{e.State, e.Units, e.Until, e.Customer, int(e.Amount)} {
			w.Int(int64(v))
		}
		if g, ok := s.Saga(book); ok {
			b, _ := saga.Put(g)
			w.Text(string(b))
		}
	}
	for _, book := range s.Books() {
		w.Int(int64(book))
	}
	return w.Bytes()
}

// apply fails if one of those records is not applied.
func apply(t testing.TB, s *fold.State, l ...api.Record) {
	t.Helper()
	for _, r := range l {
		if !s.Apply(r) {
			t.Fatalf("Apply(%+v) not", r)
		}
	}
}

// checkNot fails if one of those records is applied, or changes something.
func checkNot(t testing.TB, s *fold.State, l ...api.Record) {
	t.Helper()
	before := look(s)
	for _, r := range l {
		if s.Apply(r) {
			t.Errorf("Apply(%+v)", r)
		}
		if !bytes.Equal(look(s), before) {
			t.Errorf("Apply(%+v) changes what it is not applied to", r)
		}
	}
}

// checkEntry fails if the booking is another one.
func checkEntry(t testing.TB, s *fold.State, book int, want api.Entry) {
	t.Helper()
	if got := s.Entry(book); got != want {
		t.Errorf("Entry(%d): %+v, not %+v", book, got, want)
	}
}

// checkSaga fails if the booking's saga is another one.
func checkSaga(t testing.TB, s *fold.State, book int, want api.Saga, wantOK bool) {
	t.Helper()
	if got, ok := s.Saga(book); got != want || ok != wantOK {
		t.Errorf("Saga(%d): %+v, %v, not %+v, %v", book, got, ok, want, wantOK)
	}
}

// numbers answers what Ints of those are.
func numbers(l ...int64) []byte {
	var w pack.Writer
	for _, v := range l {
		w.Int(v)
	}
	return w.Bytes()
}

// Promise 18.1: New.

func TestNewNodes(t *testing.T) {
	for node := range api.Nodes {
		newState(t, node)
	}
	for _, node := range []int{-1, api.Nodes, api.Nodes + 1, -1 << 32, 1 << 32, 1<<32 + 1, math.MinInt, math.MaxInt} {
		if s, err := fold.New(node, conf); s != nil || err != api.ErrArg {
			t.Errorf("New(%d): %v, %d", node, s, err)
		}
	}
}

// TestNewConfs: a node of whatever number is not of a cluster that may not be.
func TestNewConfs(t *testing.T) {
	for node := range api.Nodes {
		for i := range conf.Stocks {
			for _, units := range []int{0, api.MaxRoom, -1, api.MaxRoom + 1, math.MinInt, math.MaxInt} {
				c := conf
				c.Stocks[i].Cap = units
				checkConf(t, node, c, 0 <= units && units <= api.MaxRoom)
				c = conf
				c.Stocks[i].Over = units
				checkConf(t, node, c, 0 <= units && units <= api.MaxRoom)
			}
		}
		for i := range conf.Funds {
			for _, funds := range []int64{0, api.MaxPrice, -1, api.MaxPrice + 1, math.MinInt64, math.MaxInt64} {
				c := conf
				c.Funds[i] = funds
				checkConf(t, node, c, 0 <= funds && funds <= api.MaxPrice)
			}
		}
		checkConf(t, node, api.Conf{}, true)
	}
}

// checkConf fails if a cluster is taken that may not be, or not taken.
func checkConf(t *testing.T, node int, c api.Conf, may bool) {
	t.Helper()
	s, err := fold.New(node, c)
	again, foldErr := fold.Fold(node, c, nil)
	if err != foldErr || (s == nil) != (again == nil) {
		t.Errorf("New(%d, %+v): %d; Fold: %d", node, c, err, foldErr)
	}
	if may && (s == nil || err != api.OK) || !may && (s != nil || err != api.ErrArg) {
		t.Errorf("New(%d, %+v): %v, %d", node, c, s, err)
	}
}

// TestNewIsOfItsNode: which one has which inventory, or the purse, is seen of its bytes.
func TestNewIsOfItsNode(t *testing.T) {
	for node, c := range conf.Stocks {
		h, _ := host.New(c)
		if got := newState(t, node).Bytes(); !bytes.Equal(got, h.Bytes()) {
			t.Errorf("node %d: %x, not %x", node, got, h.Bytes())
		}
	}
	p, _ := till.New(conf.Funds)
	if got := newState(t, api.Purse).Bytes(); !bytes.Equal(got, p.Bytes()) {
		t.Errorf("purse: %x, not %x", got, p.Bytes())
	}
	if got := newState(t, api.Desk).Bytes(); len(got) != 0 {
		t.Errorf("desk: %x", got)
	}
}

// Promise 18.1: Apply, whatever the node.

func TestApplyTakesNoRecordThatMayNotBe(t *testing.T) {
	for node := range api.Nodes {
		checkNot(t, newState(t, node), strange()...)
	}
}

// strange answers records that no log may have.
func strange() []api.Record {
	all := []api.Record{{}, {Now: now}, {Kind: api.RSaga + 1, Now: now}, {Kind: -1, Now: now}}
	good := []api.Record{
		op(hold(1, 1), api.Done, now), op(auth(1, 1, 1), api.Done, now), op(plain(api.OpVoid, 1), api.Done, now),
		sweep(now), next(begun(trip, now), now),
	}
	for _, r := range good {
		for _, tick := range []int{-1, api.MaxTick + 1, math.MinInt, math.MaxInt} {
			r.Now = tick
			all = append(all, r)
		}
	}
	for _, r := range good[:3] {
		for _, answer := range []int{0, -1, api.Refused + 1} {
			r.Answer = answer
			all = append(all, r)
		}
		r.Answer, r.Saga = api.Done, begun(trip, now)
		all = append(all, r)
	}
	for _, r := range good[3:] {
		r.Answer = api.Done
		all = append(all, r)
		r.Answer, r.Op = 0, hold(1, 1)
		all = append(all, r)
	}
	both := sweep(now)
	both.Saga = begun(trip, now)
	return append(all, both,
		op(hold(0, 1), api.Done, now), op(hold(api.MaxBook+1, 1), api.Refused, now), op(hold(1, 0), api.Done, now), op(api.Op{}, api.Refused, now),
		next(api.Saga{}, now), next(begun(of(0), now), now), next(begun(trip, -1), now))
}

// Promise 18.1: Apply at hosts.

func TestHostTakesWhatItAnswers(t *testing.T) {
	for node, c := range conf.Stocks {
		s := newState(t, node)
		all := c.Cap + c.Over
		apply(t, s, op(hold(1, all), api.Done, 5))
		checkEntry(t, s, 1, api.Entry{State: api.SHeld, Units: all, Until: 65})
		apply(t, s, op(hold(2, 1), api.Refused, 6))
		checkEntry(t, s, 2, api.Entry{State: api.SGone})
		apply(t, s, op(plain(api.OpConfirm, 1), api.Done, 64))
		checkEntry(t, s, 1, api.Entry{State: api.SConfirmed, Units: all})
		apply(t, s, op(plain(api.OpRelease, 1), api.Done, 7))
		checkEntry(t, s, 1, api.Entry{State: api.SGone})
		apply(t, s, op(hold(3, all), api.Done, 8))
	}
}

func TestHostTakesNothingTwice(t *testing.T) {
	s := newState(t, api.Flight)
	l := []api.Record{op(hold(1, 6), api.Done, 5), op(hold(2, 1), api.Refused, 5), op(plain(api.OpConfirm, 1), api.Done, 6), op(plain(api.OpRelease, 2), api.Done, 7)}
	for _, r := range l {
		apply(t, s, r)
		checkNot(t, s, r)
	}
	checkNot(t, s, l...)
	checkNot(t, s, op(hold(1, 6), api.Refused, 5), op(hold(1, 5), api.Done, 9), op(hold(1, 5), api.Refused, 9), op(plain(api.OpConfirm, 1), api.Refused, 6))
}

// TestHostTakesNoOtherAnswer: what is not applied was not asked, either: it is still new behind that.
func TestHostTakesNoOtherAnswer(t *testing.T) {
	s := newState(t, api.Flight)
	checkNot(t, s, op(hold(1, 6), api.Refused, 5), op(hold(1, 7), api.Done, 5), op(plain(api.OpConfirm, 1), api.Done, 5), op(plain(api.OpRelease, 1), api.Refused, 5))
	apply(t, s, op(hold(1, 6), api.Done, 5))
	checkNot(t, s, op(hold(2, 1), api.Done, 5))
	apply(t, s, op(hold(2, 1), api.Refused, 5))
	checkNot(t, s, op(plain(api.OpConfirm, 1), api.Refused, 64), op(plain(api.OpConfirm, 1), api.Done, 65))
	apply(t, s, op(plain(api.OpConfirm, 1), api.Refused, 65))
	checkEntry(t, s, 1, api.Entry{State: api.SGone})
}

// TestHostAsksAtNow: a hold is from then on, and what was swept can't be confirmed.
func TestHostAsksAtNow(t *testing.T) {
	s := newState(t, api.Hotel)
	apply(t, s, sweep(0), op(hold(1, 3), api.Done, 5), op(hold(2, 4), api.Done, 6), sweep(64))
	checkEntry(t, s, 1, api.Entry{State: api.SHeld, Units: 3, Until: 65})
	apply(t, s, sweep(65))
	checkEntry(t, s, 1, api.Entry{State: api.SGone})
	checkEntry(t, s, 2, api.Entry{State: api.SHeld, Units: 4, Until: 66})
	apply(t, s, sweep(65), op(plain(api.OpConfirm, 1), api.Refused, 0), op(hold(3, 4), api.Refused, 0), op(hold(4, 3), api.Done, 0))
	apply(t, s, sweep(api.MaxTick), sweep(0))
	checkEntry(t, s, 2, api.Entry{State: api.SGone})
}

func TestHostTakesNothingOfOthers(t *testing.T) {
	for node := range conf.Stocks {
		s := newState(t, node)
		checkNot(t, s, next(begun(trip, now), now))
		for _, answer := range []int{api.Done, api.Refused} {
			checkNot(t, s, op(auth(1, 1, 1), answer, now), op(plain(api.OpCapture, 1), answer, now), op(plain(api.OpVoid, 1), answer, now))
		}
	}
}

// Promise 18.1: Apply at the purse.

func TestTillTakesWhatItAnswers(t *testing.T) {
	s := newState(t, api.Purse)
	apply(t, s, op(auth(1, 3, 80), api.Done, now))
	checkEntry(t, s, 1, api.Entry{State: api.SAuth, Customer: 3, Amount: 80})
	apply(t, s, op(auth(2, 3, 1), api.Refused, 0))
	checkEntry(t, s, 2, api.Entry{State: api.SGone})
	apply(t, s, op(plain(api.OpCapture, 1), api.Done, api.MaxTick))
	checkEntry(t, s, 1, api.Entry{State: api.SCaptured, Customer: 3, Amount: 80})
	apply(t, s, op(auth(3, 0, 50), api.Done, 1), op(plain(api.OpVoid, 3), api.Done, 1), op(auth(4, 0, 50), api.Done, 1))
	checkEntry(t, s, 3, api.Entry{State: api.SGone})
}

func TestTillTakesNothingTwice(t *testing.T) {
	s := newState(t, api.Purse)
	l := []api.Record{op(auth(1, 0, 50), api.Done, 5), op(auth(2, 0, 1), api.Refused, 5), op(plain(api.OpCapture, 1), api.Done, 6), op(plain(api.OpVoid, 2), api.Done, 7)}
	for _, r := range l {
		apply(t, s, r)
		checkNot(t, s, r)
	}
	checkNot(t, s, l...)
	checkNot(t, s, op(auth(1, 0, 50), api.Refused, 5), op(auth(1, 0, 50), api.Done, 9), op(auth(1, 0, 49), api.Refused, 5))
}

func TestTillTakesNoOtherAnswer(t *testing.T) {
	s := newState(t, api.Purse)
	checkNot(t, s, op(auth(1, 0, 50), api.Refused, 5), op(auth(1, 0, 51), api.Done, 5), op(plain(api.OpCapture, 1), api.Done, 5), op(plain(api.OpVoid, 1), api.Refused, 5))
	apply(t, s, op(auth(1, 0, 50), api.Done, 5))
	checkNot(t, s, op(auth(2, 0, 1), api.Done, 5))
	apply(t, s, op(auth(2, 0, 1), api.Refused, 5), op(plain(api.OpCapture, 2), api.Refused, 5), op(plain(api.OpCapture, 1), api.Done, 5))
}

func TestTillTakesNothingOfOthers(t *testing.T) {
	s := newState(t, api.Purse)
	checkNot(t, s, next(begun(trip, now), now), sweep(now), sweep(0))
	for _, answer := range []int{api.Done, api.Refused} {
		checkNot(t, s, op(hold(1, 1), answer, now), op(plain(api.OpConfirm, 1), answer, now), op(plain(api.OpRelease, 1), answer, now))
	}
}

// Promise 18.1: Apply at the orchestrator.

// all answers all that trip's saga may be.
func all() []api.Saga {
	l := []api.Saga{at(api.PCommit, 0, api.ByNone), at(api.PBooked, 0, api.ByNone)}
	for step := range 5 {
		l = append(l, at(api.PForward, step, api.ByNone))
	}
	for reason := api.ByResource; reason <= api.ByCancel; reason++ {
		l = append(l, at(api.PAborted, 0, reason))
		for step := range 3 {
			l = append(l, at(api.PBack, step, reason))
		}
	}
	return l
}

// behind answers what trip's saga may be next, written here by hand.
func behind(s api.Saga, late bool) []api.Saga {
	switch s.Phase {
	case api.PForward:
		done := at(api.PForward, s.Step+1, api.ByNone)
		if s.Step == 4 {
			done = at(api.PCommit, 0, api.ByNone)
		}
		refused := api.ByResource
		if s.Step == 2 {
			refused = api.ByFunds
		}
		l := []api.Saga{done, at(api.PBack, 0, refused), at(api.PBack, 0, api.ByCancel)}
		if late {
			l = append(l, at(api.PBack, 0, api.ByDeadline))
		}
		return l
	case api.PCommit:
		return []api.Saga{at(api.PBooked, 0, api.ByNone)}
	case api.PBack:
		if s.Step == 2 {
			return []api.Saga{at(api.PAborted, 0, s.Reason)}
		}
		return []api.Saga{at(api.PBack, s.Step+1, s.Reason)}
	}
	return nil
}

// way answers records that bring trip's saga there.
func way(s api.Saga) []api.Record {
	step := begun(trip, now)
	l := []api.Record{next(step, now)}
	forward := func(to int) {
		for step.Step < to {
			step.Step++
			l = append(l, next(step, now))
		}
	}
	switch s.Phase {
	case api.PForward:
		forward(s.Step)
	case api.PCommit, api.PBooked:
		forward(4)
		l = append(l, next(at(api.PCommit, 0, api.ByNone), now))
		if s.Phase == api.PBooked {
			l = append(l, next(s, now))
		}
	default:
		if s.Reason == api.ByFunds {
			forward(2)
		}
		last := s.Step
		if s.Phase == api.PAborted {
			last = 2
		}
		for i := range last + 1 {
			l = append(l, next(at(api.PBack, i, s.Reason), now+trip.Deadline))
		}
		if s.Phase == api.PAborted {
			l = append(l, next(s, now))
		}
	}
	return l
}

func TestDeskTakesWhatBegins(t *testing.T) {
	for _, book := range []int{1, 7, api.MaxBook} {
		for _, since := range []int{0, now - 1, now, now + 1, api.MaxTick} {
			for _, tick := range []int{0, now, api.MaxTick} {
				s := newState(t, api.Desk)
				apply(t, s, next(begun(of(book), since), tick))
				checkSaga(t, s, book, begun(of(book), since), true)
			}
		}
	}
}

func TestDeskTakesNoneThatDoesNotBegin(t *testing.T) {
	s := newState(t, api.Desk)
	apply(t, s, next(begun(of(8), now), now))
	for _, g := range all() {
		if g != begun(trip, now) {
			checkNot(t, s, next(g, now), next(g, now+trip.Deadline))
		}
	}
	apply(t, s, next(begun(trip, now), now))
}

// TestDeskTakesWhatComesNext: of all that a saga may be, from all that it may be.
func TestDeskTakesWhatComesNext(t *testing.T) {
	for _, g := range all() {
		for _, tick := range []int{0, now + trip.Deadline - 1, now + trip.Deadline, api.MaxTick} {
			nexts := behind(g, tick >= now+trip.Deadline)
			for _, to := range all() {
				s := newState(t, api.Desk)
				apply(t, s, way(g)...)
				checkSaga(t, s, trip.Book, g, true)
				if !slices.Contains(nexts, to) {
					checkNot(t, s, next(to, tick))
					continue
				}
				apply(t, s, next(to, tick))
				checkSaga(t, s, trip.Book, to, true)
			}
		}
	}
}

// TestDeskTakesNoOtherBooking: what comes next is of the same Want, and of the same Since.
func TestDeskTakesNoOtherBooking(t *testing.T) {
	others := []func(*api.Saga){
		func(s *api.Saga) { s.Since-- },
		func(s *api.Saga) { s.Since++ },
		func(s *api.Saga) { s.Want.Price++ },
		func(s *api.Saga) { s.Want.Customer-- },
		func(s *api.Saga) { s.Want.Deadline++ },
		func(s *api.Saga) { s.Want.Units[0]++ },
		func(s *api.Saga) { s.Want.Units[2]-- },
		func(s *api.Saga) { s.Want.Book++ },
	}
	for _, g := range all() {
		s := newState(t, api.Desk)
		apply(t, s, way(g)...)
		for _, to := range behind(g, true) {
			for _, change := range others {
				other := to
				change(&other)
				checkNot(t, s, next(other, api.MaxTick))
			}
		}
	}
}

// TestDeskNeverLate: without a deadline, none is taken back for it.
func TestDeskNeverLate(t *testing.T) {
	w := trip
	w.Deadline = 0
	s := newState(t, api.Desk)
	apply(t, s, next(begun(w, now), now))
	back := begun(w, now)
	back.Phase, back.Reason = api.PBack, api.ByDeadline
	checkNot(t, s, next(back, api.MaxTick))
	back.Reason = api.ByResource
	apply(t, s, next(back, now))
}

func TestDeskTakesNothingOfOthers(t *testing.T) {
	s := newState(t, api.Desk)
	apply(t, s, next(begun(trip, now), now))
	checkNot(t, s, sweep(now))
	for _, answer := range []int{api.Done, api.Refused} {
		checkNot(t, s, op(hold(7, 1), answer, now), op(auth(7, 2, 50), answer, now), op(plain(api.OpVoid, 7), answer, now))
	}
}

// Promise 18.2: Entry, Saga, Books, Bytes.

func TestEntryOfNone(t *testing.T) {
	desk := newState(t, api.Desk)
	apply(t, desk, next(begun(trip, now), now))
	host, purse := newState(t, api.Car), newState(t, api.Purse)
	apply(t, host, op(hold(7, 1), api.Done, now))
	apply(t, purse, op(auth(7, 1, 1), api.Done, now))
	for _, book := range []int{math.MinInt, -1, 0, 1, 6, 8, api.MaxBook, api.MaxBook + 1, 7 + 1<<32, math.MaxInt} {
		for _, s := range []*fold.State{desk, host, purse} {
			checkEntry(t, s, book, api.Entry{})
			checkSaga(t, s, book, api.Saga{}, false)
		}
	}
	checkEntry(t, desk, 7, api.Entry{})
	for _, s := range []*fold.State{host, purse} {
		checkSaga(t, s, 7, api.Saga{}, false)
		if len(s.Books()) != 0 {
			t.Errorf("Books: %v", s.Books())
		}
	}
}

func TestBooksRise(t *testing.T) {
	s := newState(t, api.Desk)
	if got := s.Books(); len(got) != 0 {
		t.Errorf("Books at first: %v", got)
	}
	for _, book := range []int{200, 3, 64, 1, 199} {
		apply(t, s, next(begun(of(book), now), now))
	}
	want := []int{1, 3, 64, 199, 200}
	got := s.Books()
	if !slices.Equal(got, want) {
		t.Errorf("Books: %v, not %v", got, want)
	}
	got[0] = 5
	if again := s.Books(); !slices.Equal(again, want) {
		t.Errorf("Books hands out its own: %v", again)
	}
}

func TestBytesOfParticipants(t *testing.T) {
	h, _ := host.New(conf.Stocks[api.Car])
	s := newState(t, api.Car)
	apply(t, s, op(hold(9, 2), api.Done, 5), op(hold(3, 4), api.Refused, 6), op(plain(api.OpConfirm, 9), api.Done, 7))
	h.Ask(hold(9, 2), 5)
	h.Ask(hold(3, 4), 6)
	h.Ask(plain(api.OpConfirm, 9), 7)
	if !bytes.Equal(s.Bytes(), h.Bytes()) {
		t.Errorf("Bytes of a host: %x, not %x", s.Bytes(), h.Bytes())
	}
	p, _ := till.New(conf.Funds)
	s = newState(t, api.Purse)
	apply(t, s, op(auth(9, 1, 60), api.Done, 5), op(auth(3, 1, 1), api.Refused, 5), op(plain(api.OpCapture, 9), api.Done, 5))
	p.Ask(auth(9, 1, 60))
	p.Ask(auth(3, 1, 1))
	p.Ask(plain(api.OpCapture, 9))
	if !bytes.Equal(s.Bytes(), p.Bytes()) {
		t.Errorf("Bytes of a till: %x, not %x", s.Bytes(), p.Bytes())
	}
}

func TestBytesOfSagas(t *testing.T) {
	s := newState(t, api.Desk)
	apply(t, s, next(begun(trip, now), now), next(at(api.PBack, 0, api.ByCancel), now), next(begun(of(2), 5), 5))
	first := numbers(2, 2, 9, 1, 0, 2, 50, api.PForward, 0, 0, 5)
	second := numbers(7, 2, 9, 1, 0, 2, 50, api.PBack, 0, api.ByCancel, now)
	want := slices.Concat(numbers(int64(len(first))), first, numbers(int64(len(second))), second)
	if got := s.Bytes(); !bytes.Equal(got, want) {
		t.Errorf("Bytes: %x, not %x", got, want)
	}
	s.Bytes()[0]++
	if got := s.Bytes(); !bytes.Equal(got, want) {
		t.Errorf("Bytes hands out its own: %x, not %x", got, want)
	}
}

func TestNil(t *testing.T) {
	for _, s := range []*fold.State{nil, {}} {
		for _, r := range []api.Record{op(hold(1, 1), api.Done, now), op(auth(1, 1, 1), api.Refused, now), sweep(now), next(begun(trip, now), now)} {
			if s.Apply(r) {
				t.Errorf("nil: Apply(%+v)", r)
			}
		}
		checkEntry(t, s, 1, api.Entry{})
		checkSaga(t, s, 7, api.Saga{}, false)
		if len(s.Books()) != 0 || len(s.Bytes()) != 0 {
			t.Errorf("nil: %v, %x", s.Books(), s.Bytes())
		}
	}
}

// Promise 18.3: Fold.

// logs answers records that each node may have, one behind the other.
func logs() [api.Nodes][]api.Record {
	hosts := []api.Record{op(hold(1, 2), api.Done, 5), op(hold(2, 6), api.Refused, 5), sweep(65), op(plain(api.OpConfirm, 1), api.Refused, 65), op(hold(3, 2), api.Done, 66), op(plain(api.OpConfirm, 3), api.Done, 67)}
	purse := []api.Record{op(auth(1, 0, 50), api.Done, 5), op(auth(2, 0, 1), api.Refused, 6), op(plain(api.OpCapture, 1), api.Done, 7), op(plain(api.OpVoid, 2), api.Done, 8)}
	desk := slices.Concat(way(at(api.PBooked, 0, api.ByNone)), []api.Record{next(begun(of(1), 5), 5)})
	return [api.Nodes][]api.Record{hosts, slices.Concat(hosts[:1], []api.Record{op(hold(2, 6), api.Refused, 5)}, hosts[2:]), hosts, purse, desk}
}

func TestFold(t *testing.T) {
	for node, l := range logs() {
		by := newState(t, node)
		for i := range len(l) + 1 {
			s, err := fold.Fold(node, conf, l[:i])
			if err != api.OK || !bytes.Equal(look(s), look(by)) {
				t.Fatalf("Fold of %d at node %d: %d", i, node, err)
			}
			if i < len(l) {
				apply(t, by, l[i])
			}
		}
	}
}

func TestFoldOfNothing(t *testing.T) {
	for node := range api.Nodes {
		for _, l := range [][]api.Record{nil, {}} {
			s, err := fold.Fold(node, conf, l)
			if err != api.OK || !bytes.Equal(look(s), look(newState(t, node))) {
				t.Errorf("Fold of nothing at node %d: %v, %d", node, s, err)
			}
		}
	}
}

// TestFoldOfOneThatIsNotApplied: wherever it stands, there is no state.
func TestFoldOfOneThatIsNotApplied(t *testing.T) {
	for node, l := range logs() {
		for i := range len(l) + 1 {
			for _, wrong := range []api.Record{{}, sweep(-1), op(plain(api.OpRelease, 9), api.Refused, 5), next(at(api.PBack, 1, api.ByCancel), 5)} {
				checkFold(t, node, slices.Insert(slices.Clone(l), i, wrong))
			}
		}
		checkFold(t, node, slices.Concat(l[:1], l))
	}
}

// checkFold fails if those records make a state.
func checkFold(t *testing.T, node int, l []api.Record) {
	t.Helper()
	if s, err := fold.Fold(node, conf, l); s != nil || err != api.ErrBad {
		t.Errorf("Fold(%d, %+v): %v, %d", node, l, s, err)
	}
}

// TestFoldAsksForItsNodeFirst: New's error comes ahead of what the records are.
func TestFoldAsksForItsNodeFirst(t *testing.T) {
	for _, l := range [][]api.Record{nil, {sweep(5)}, {{}}} {
		if s, err := fold.Fold(api.Nodes, conf, l); s != nil || err != api.ErrArg {
			t.Errorf("Fold at no node: %v, %d", s, err)
		}
		c := conf
		c.Funds[0] = -1
		if s, err := fold.Fold(0, c, l); s != nil || err != api.ErrArg {
			t.Errorf("Fold of no cluster: %v, %d", s, err)
		}
	}
}

func TestFoldLeavesItsList(t *testing.T) {
	for node, l := range logs() {
		before := slices.Clone(l)
		fold.Fold(node, conf, l)
		if !slices.Equal(l, before) {
			t.Errorf("Fold at node %d changes its list", node)
		}
	}
}

// Promise 18.4 (and T4): a node that starts is what its records make.

// drawn answers a record that a node may or may not take.
func drawn(rnd *rand.Rand, s *fold.State) api.Record {
	book := 1 + rnd.Intn(4)
	kind, tick := 1+rnd.Intn(7), rnd.Intn(90)
	o := plain(kind, book)
	switch kind {
	case api.OpHold:
		o = hold(book, 1+rnd.Intn(4))
	case api.OpAuth:
		o = auth(book, rnd.Intn(2), int64(rnd.Intn(40)))
	}
	switch rnd.Intn(4) {
	case 0:
		return sweep(tick)
	case 1:
		g, ok := s.Saga(book)
		if !ok {
			w := of(book)
			w.Units = [3]int{rnd.Intn(2), rnd.Intn(2), rnd.Intn(2)}
			g = begun(w, tick)
		}
		switch rnd.Intn(3) {
		case 0:
			g.Step += rnd.Intn(2)
		case 1:
			g.Phase, g.Step = 1+rnd.Intn(5), 0
		case 2:
			g.Phase, g.Step, g.Reason = api.PBack+2*rnd.Intn(2), rnd.Intn(2), 1+rnd.Intn(4)
		}
		return next(g, tick)
	}
	return op(o, 1+rnd.Intn(2), tick)
}

// hostTakes and tillTakes tell whether a participant that applied l asks and answers as r has it; they are asked anew each time.
func hostTakes(node int, l []api.Record, r api.Record) bool {
	h, _ := host.New(conf.Stocks[node])
	for _, done := range l {
		if done.Kind == api.RSweep {
			h.Sweep(done.Now)
			continue
		}
		h.Ask(done.Op, done.Now)
	}
	answer, isNew := h.Ask(r.Op, r.Now)
	return r.Kind == api.RSweep || r.Kind == api.ROp && isNew && answer == r.Answer
}
func tillTakes(l []api.Record, r api.Record) bool {
	p, _ := till.New(conf.Funds)
	for _, done := range l {
		p.Ask(done.Op)
	}
	answer, isNew := p.Ask(r.Op)
	return r.Kind == api.ROp && isNew && answer == r.Answer
}

// sagaTakes tells whether r is what s may be next, or begins.
func sagaTakes(s *fold.State, r api.Record) bool {
	is, ok := s.Saga(r.Saga.Want.Book)
	if r.Kind != api.RSaga || !ok {
		return r.Kind == api.RSaga && r.Saga == begun(r.Saga.Want, r.Saga.Since)
	}
	ask, _ := saga.Next(is)
	done, doneOK := saga.Answer(is, ask, api.Done)
	refused, refusedOK := saga.Answer(is, ask, api.Refused)
	cancelled, cancelledOK := saga.Cancel(is)
	late, lateOK := saga.Late(is, r.Now)
	return doneOK && r.Saga == done || refusedOK && r.Saga == refused || cancelledOK && r.Saga == cancelled || lateOK && r.Saga == late
}

// takes tells whether node, which is s behind l, takes r.
func takes(node int, s *fold.State, l []api.Record, r api.Record) bool {
	switch {
	case !record.May(r):
		return false
	case node < api.Purse:
		return hostTakes(node, l, r)
	case node == api.Purse:
		return tillTakes(l, r)
	}
	return sagaTakes(s, r)
}

func TestStateIsItsRecords(t *testing.T) {
	for seed := range int64(30) {
		rnd := rand.New(rand.NewSource(seed))
		node := rnd.Intn(api.Nodes)
		s := newState(t, node)
		var l []api.Record
		for range 120 {
			r, before := drawn(rnd, s), look(s)
			want := takes(node, s, l, r)
			if got := s.Apply(r); got != want {
				t.Fatalf("node %d behind %+v: Apply(%+v): %v", node, l, r, got)
			}
			if !want && !bytes.Equal(look(s), before) {
				t.Fatalf("node %d behind %+v: Apply(%+v) changes it", node, l, r)
			}
			if want {
				l = append(l, r)
			}
			if again, err := fold.Fold(node, conf, l); err != api.OK || !bytes.Equal(look(again), look(s)) {
				t.Fatalf("node %d is not what %+v make, %d", node, l, err)
			}
		}
		checkBeginnings(t, node, l, s)
	}
}

// checkBeginnings fails if a node that starts with a beginning of what it had, as bytes, does not come to the same by the rest.
func checkBeginnings(t *testing.T, node int, l []api.Record, want *fold.State) {
	t.Helper()
	for i := range len(l) + 1 {
		var read []api.Record
		for _, r := range l[:i] {
			b, _ := record.Put(r)
			again, err := record.Get(b)
			if err != api.OK {
				t.Fatalf("Get of %+v: %d", r, err)
			}
			read = append(read, again)
		}
		s, err := fold.Fold(node, conf, read)
		if err != api.OK {
			t.Fatalf("Fold of a beginning: %d", err)
		}
		apply(t, s, l[i:]...)
		if !bytes.Equal(look(s), look(want)) {
			t.Fatalf("node %d, begun by %d of %+v: another one", node, i, l)
		}
	}
}

// TestStatesShareNothing: what one of two nodes of the same records takes, the other one has not.
func TestStatesShareNothing(t *testing.T) {
	for node, l := range logs() {
		one, _ := fold.Fold(node, conf, l[:2])
		two, _ := fold.Fold(node, conf, l[:2])
		before := look(two)
		apply(t, one, l[2:]...)
		if !bytes.Equal(look(two), before) {
			t.Errorf("node %d: two share something", node)
		}
	}
}
