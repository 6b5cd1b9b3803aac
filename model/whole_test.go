package model_test

import (
	"math/rand"
	"slices"
	"testing"

	"sojourn/api"
	"sojourn/model"
	"sojourn/saga"
)

// Promise 19.3: clients see bookings that are atomic.

// atom is a booking as nobody sees it: there is none, or it is open, or it has ended; all at once.
type atom struct {
	open, cancelled bool
	reply, reason   int // how it has ended
	want            api.Want
	since           int
}

// comes answers all that a may be by now, unseen: as it is, or ended, if it was open.
func (a atom) comes(now int) []atom {
	all := []atom{a}
	if !a.open {
		return all
	}
	end := func(may bool, reply, reason int) {
		if may {
			all = append(all, atom{reply: reply, reason: reason, want: a.want, since: a.since})
		}
	}
	end(true, api.CBooked, api.ByNone)
	end(true, api.CAborted, api.ByResource)
	end(a.want.Price > 0, api.CAborted, api.ByFunds)
	end(a.want.Deadline > 0 && now >= a.since+a.want.Deadline, api.CAborted, api.ByDeadline)
	end(a.cancelled, api.CAborted, api.ByCancel)
	return all
}

// isNew tells whether nothing was booked yet.
func (a atom) isNew() bool { return a.want == api.Want{} }

// calledAt answers a behind a call that reaches it.
func (a atom) calledAt(c api.Act) atom {
	switch {
	case c.Call == api.KCancel && a.open:
		a.cancelled = true
	case c.Call == api.KBook && a.isNew() && c.Want != none:
		a = atom{open: true, want: c.Want, since: c.Now}
	}
	return a
}

// tells answers what a call is told that finds a: was, as it was ahead of the call.
func (a atom) tells(c api.Act, was atom) (reply, reason int) {
	switch {
	case c.Call == api.KBook && was.isNew() && c.Want == none:
		return api.CRejected, api.ByNone
	case c.Call == api.KBook && was.isNew():
		return api.CAccepted, api.ByNone
	case was.isNew():
		return api.CUnknown, api.ByNone
	case c.Call == api.KBook && c.Want != a.want:
		return api.CRejected, api.ByNone
	case a.open:
		return api.CPending, api.ByNone
	}
	return a.reply, a.reason
}

// behind answers what a booking may be behind c, which may have been any of those ahead of it; none: c can't be told.
func behind(those []atom, c api.Act) []atom {
	if c.Reply == api.CDown {
		return those
	}
	var all []atom
	for _, first := range those {
		for _, was := range first.comes(c.Now) {
			for _, a := range was.calledAt(c).comes(c.Now) {
				reply, reason := a.tells(c, was)
				if reply == c.Reply && reason == c.Reason && !slices.Contains(all, a) {
					all = append(all, a)
				}
			}
		}
	}
	return all
}

// anyAct answers all calls of wants, and of their booking, told all there is to tell, at those ticks.
func anyAct(wants []api.Want, ticks []int) []api.Act {
	var all []api.Act
	each := []api.Act{cancel(7, 0), ask(7, 0)}
	for _, w := range wants {
		each = append(each, book(w, 0))
	}
	for _, a := range each {
		for reply := api.CAccepted; reply <= api.CDown; reply++ {
			for reason := api.ByNone; reason <= api.ByCancel; reason++ {
				a.Reply, a.Reason = reply, reason
				if !mayReason(a) {
					continue
				}
				for _, tick := range ticks {
					all = append(all, at(a, tick))
				}
			}
		}
	}
	return all
}

// explore holds Check against atoms behind l, over all acts that there are, so many deep.
func explore(t *testing.T, l []api.Act, those []atom, acts []api.Act, deep int) {
	t.Helper()
	for _, a := range acts {
		if len(l) > 0 && a.Now < l[len(l)-1].Now {
			continue
		}
		next, now := append(slices.Clone(l), a), behind(those, a)
		checkLast(t, len(now) > 0, next...)
		if len(now) > 0 && deep > 1 {
			explore(t, next, now, acts, deep-1)
		}
	}
}

// TestAtoms: what Check takes is what clients can see of an atomic booking, and nothing else: over all traces of so many acts.
func TestAtoms(t *testing.T) {
	for _, price := range []int64{0, 50} {
		for _, deadline := range []int{0, 2} {
			w, other := trip, trip
			w.Price, w.Deadline, other.Customer = price, deadline, 1
			first := []atom{{}}
			explore(t, nil, first, anyAct([]api.Want{w, other, none}, []int{now, now + 2}), 3)
			accepted := book(w, api.CAccepted)
			explore(t, []api.Act{accepted}, behind(first, accepted), anyAct([]api.Want{w, none}, []int{now + 1, now + 2}), 3)
		}
	}
}

// TestLongTraces: of acts at random, up to the first one that may not be; beyond it Check tells of that one.
func TestLongTraces(t *testing.T) {
	random := rand.New(rand.NewSource(1))
	for range 20000 {
		w := trip
		w.Price, w.Deadline = random.Int63n(2), random.Intn(4)
		acts := anyAct([]api.Want{w, none}, []int{now})
		l, those := []api.Act{book(w, api.CAccepted)}, behind([]atom{{}}, book(w, api.CAccepted))
		for len(those) > 0 {
			a := at(acts[random.Intn(len(acts))], l[len(l)-1].Now+random.Intn(2))
			next := behind(those, a)
			if len(next) == 0 && random.Intn(30) > 0 {
				continue // most are such: a trace of them all were short
			}
			l, those = append(l, a), next
		}
		check(t, len(l), l...)
		check(t, 0, l[:len(l)-1]...)
		check(t, len(l), append(slices.Clone(l), l...)...)
	}
}

// Theorem T3: what clients are told of sagas.

// office is an orchestrator: its sagas, and what clients were told of them.
type office struct {
	random *rand.Rand
	now    int
	sagas  map[int]api.Saga
	acts   []api.Act
}

// tell writes down what a call is told.
func (o *office) tell(call int, w api.Want) {
	a := api.Act{Call: call, Book: w.Book, Now: o.now}
	if call == api.KBook {
		a.Want = w
	}
	s, is := o.sagas[w.Book]
	switch {
	case o.random.Intn(8) == 0:
		a.Reply = api.CDown
	case call == api.KBook && is && s.Want != w:
		a.Reply = api.CRejected
	case call == api.KBook && !is:
		a.Reply = o.accept(w)
	case !is:
		a.Reply = api.CUnknown
	default:
		if call == api.KCancel {
			s, _ = saga.Cancel(s)
			o.sagas[w.Book] = s
		}
		if a.Reply = saga.Tells(s); a.Reply == api.CAborted {
			a.Reason = s.Reason
		}
	}
	o.acts = append(o.acts, a)
}

// accept begins w's saga, if it may be, and answers what its client is told.
func (o *office) accept(w api.Want) int {
	s, err := saga.New(w, o.now)
	if err != api.OK {
		return api.CRejected
	}
	o.sagas[w.Book] = s
	return api.CAccepted
}

// answer lets the booking's next step be answered; one of money is not refused where there is no price.
func (o *office) answer(number int) {
	s := o.sagas[number]
	a, ok := saga.Next(s)
	if !ok {
		return
	}
	answer := api.Done
	if o.random.Intn(6) == 0 && a.Op != (api.Op{Kind: api.OpAuth, Book: number, Customer: s.Want.Customer}) {
		answer = api.Refused
	}
	o.sagas[number], _ = saga.Answer(s, a, answer)
}

// tick lets time go on.
func (o *office) tick() {
	o.now++
	for number, s := range o.sagas {
		o.sagas[number], _ = saga.Late(s, o.now)
	}
}

// asked answers a booking that some client asks for: a few, each of them in a few ways.
func (o *office) asked() api.Want {
	w := of(1 + o.random.Intn(4))
	w.Price = int64(w.Book % 2)
	w.Deadline = w.Book / 2 * 5
	switch o.random.Intn(6) {
	case 0:
		w.Customer = 1
	case 1:
		w.Units = [3]int{}
	}
	return w
}

// goOn lets so many things happen.
func (o *office) goOn(count int) {
	for range count {
		w := o.asked()
		switch o.random.Intn(8) {
		case 0, 1:
			o.tell(api.KBook, w)
		case 2, 3:
			o.tell(api.KAsk, w)
		case 4:
			if o.random.Intn(4) == 0 {
				o.tell(api.KCancel, w)
			}
		case 5:
			o.tick()
		default:
			o.answer(w.Book)
		}
	}
}

// TestSagas: what they tell may be told, and the end that was told is the saga's.
func TestSagas(t *testing.T) {
	ended := map[[2]int]int{}
	for seed := range int64(400) {
		o := &office{random: rand.New(rand.NewSource(seed)), sagas: map[int]api.Saga{}}
		o.goOn(300)
		check(t, 0, o.acts...)
		for number := range 6 {
			reply, reason := model.Final(o.acts, number)
			ended[[2]int{reply, reason}]++
			if s := o.sagas[number]; reply != 0 && (reply != saga.Tells(s) || reason != s.Reason) {
				t.Fatalf("seed %d, booking %d: %d, %d was told of %+v", seed, number, reply, reason, s)
			}
		}
		checkTurned(t, o)
	}
	for _, end := range ends(ask(7, 0)) {
		if ended[[2]int{end.Reply, end.Reason}] < 20 {
			t.Errorf("end %d, %d was told %d times", end.Reply, end.Reason, ended[[2]int{end.Reply, end.Reason}])
		}
	}
}

// checkTurned fails if an end that was told twice may be another one the second time.
func checkTurned(t *testing.T, o *office) {
	t.Helper()
	told := map[int]bool{}
	for i, a := range o.acts {
		if a.Reply != api.CBooked && a.Reply != api.CAborted {
			continue
		}
		for _, end := range ends(a) {
			if told[a.Book] && end != a {
				l := slices.Clone(o.acts)
				l[i] = end
				check(t, i+1, l...)
			}
		}
		told[a.Book] = true
	}
}
