package model_test

import (
	"math"
	"slices"
	"testing"

	"sojourn/api"
	"sojourn/model"
)

// now is when most acts are.
const now = 100

// trip is a booking of two inventories, which has all that one may have.
var trip = api.Want{Book: 7, Customer: 2, Deadline: 9, Units: [3]int{1, 0, 2}, Price: 50}

// none is a booking that may not be: it has no units.
var none = api.Want{Book: 7, Customer: 2, Deadline: 9, Price: 50}

// of answers a booking as trip is, of another number.
func of(book int) api.Want {
	w := trip
	w.Book = book
	return w
}

// book, cancel and ask answer a call of each kind, told so.
func book(w api.Want, reply int) api.Act {
	return api.Act{Call: api.KBook, Book: w.Book, Want: w, Reply: reply, Now: now}
}
func cancel(number, reply int) api.Act {
	return api.Act{Call: api.KCancel, Book: number, Reply: reply, Now: now}
}
func ask(number, reply int) api.Act {
	return api.Act{Call: api.KAsk, Book: number, Reply: reply, Now: now}
}

// by answers a with that Reason, at when it is then.
func by(a api.Act, reason int) api.Act {
	a.Reason = reason
	return a
}
func at(a api.Act, now int) api.Act {
	a.Now = now
	return a
}

// calls answers trip's calls of each kind, told so.
func calls(reply int) []api.Act {
	return []api.Act{book(trip, reply), cancel(7, reply), ask(7, reply)}
}

// replies answers a told each of what there is to tell, and each of what there is not.
func replies(a api.Act) []api.Act {
	var all []api.Act
	for reply := -1; reply <= 9; reply++ {
		for reason := -1; reason <= 6; reason++ {
			a.Reply, a.Reason = reply, reason
			all = append(all, a)
		}
	}
	return all
}

// beyond answers numbers that are not from lo to hi, some of which would be in a smaller kind of integer.
func beyond(lo, hi int) []int {
	return []int{lo - 1, hi + 1, lo - 1<<8, hi + 1<<8, lo - 1<<32, hi + 1<<32, math.MinInt, math.MaxInt}
}

// check fails if the first act that may not be is another one.
func check(t *testing.T, want int, l ...api.Act) {
	t.Helper()
	if got := model.Check(l); got != want {
		t.Fatalf("Check(%+v): %d, not %d", l, got, want)
	}
}

// checkLast fails if the last one of l may be told otherwise than may says. All ahead of it may.
func checkLast(t *testing.T, may bool, l ...api.Act) {
	t.Helper()
	want := len(l)
	if may {
		want = 0
	}
	check(t, want, l...)
}

// checkFinal fails if another end was told.
func checkFinal(t *testing.T, l []api.Act, book, reply, reason int) {
	t.Helper()
	if r, why := model.Final(l, book); r != reply || why != reason {
		t.Errorf("Final(%+v, %d): %d, %d, not %d, %d", l, book, r, why, reply, reason)
	}
}

// Promise 19.1: Check, what an act is.

// TestExample is the chapter's.
func TestExample(t *testing.T) {
	check(t, 4, book(trip, api.CAccepted), ask(7, api.CPending), ask(7, api.CBooked), ask(7, api.CPending))
}

func TestNothingWasTold(t *testing.T) {
	check(t, 0)
	check(t, 0, []api.Act{}...)
}

func TestCallsThereAreNot(t *testing.T) {
	for _, call := range append(beyond(api.KBook, api.KAsk), 5, 6, 7) {
		for _, reply := range []int{api.CUnknown, api.CDown, api.CAccepted, api.CRejected} {
			for _, a := range calls(reply) {
				a.Call = call
				check(t, 1, a)
			}
		}
		a := ask(7, api.CPending)
		a.Call = call
		check(t, 2, book(trip, api.CAccepted), a)
	}
}

func TestBooks(t *testing.T) {
	for number := 1; number <= api.MaxBook; number++ {
		check(t, 0, ask(number, api.CUnknown), cancel(number, api.CUnknown), book(of(number), api.CAccepted), ask(number, api.CPending))
	}
	for _, number := range append(beyond(1, api.MaxBook), 0, -7, 1000) {
		for _, reply := range []int{api.CUnknown, api.CDown, api.CRejected, api.CPending} {
			check(t, 1, ask(number, reply))
			check(t, 1, cancel(number, reply))
			check(t, 1, book(of(number), reply))
		}
	}
}

// TestAnotherBookThanItsWants: of a booking, which is the only call that tells it twice.
func TestAnotherBookThanItsWants(t *testing.T) {
	for _, number := range []int{1, 6, 8, 200, 0, -7, 201, 7 + 1<<32} {
		for reply := api.CAccepted; reply <= api.CDown; reply++ {
			a := book(trip, reply)
			a.Book = number
			check(t, 1, a)
			a = book(of(number), reply)
			a.Book = 7
			check(t, 1, a)
			check(t, 2, book(trip, api.CAccepted), a)
		}
	}
}

func TestRepliesThereAreNot(t *testing.T) {
	for _, reply := range append(beyond(api.CAccepted, api.CDown), 0, -5) {
		for _, a := range calls(reply) {
			check(t, 1, a)
			check(t, 2, book(trip, api.CAccepted), a)
		}
		check(t, 1, book(none, reply))
	}
}

func TestTimes(t *testing.T) {
	for _, tick := range []int{0, 1, now, api.MaxTick - 1, api.MaxTick} {
		for _, a := range calls(api.CDown) {
			check(t, 0, at(a, tick))
		}
		check(t, 0, at(book(trip, api.CAccepted), tick), at(ask(7, api.CPending), api.MaxTick))
	}
	for _, tick := range beyond(0, api.MaxTick) {
		for _, a := range calls(api.CDown) {
			check(t, 1, at(a, tick))
		}
		check(t, 2, at(book(trip, api.CAccepted), 0), at(ask(7, api.CPending), tick))
	}
}

// TestTimeGoesOn: or stays, over all bookings, and where nobody is there, too.
func TestTimeGoesOn(t *testing.T) {
	ahead := []api.Act{book(trip, api.CAccepted), ask(7, api.CPending), ask(8, api.CUnknown), ask(8, api.CDown), ask(7, api.CDown)}
	for _, first := range ahead {
		if first.Reply == api.CPending {
			continue
		}
		for _, second := range []api.Act{ask(9, api.CUnknown), ask(9, api.CDown), book(of(10), api.CAccepted)} {
			for _, ticks := range []int{0, 1, 50} {
				check(t, 0, first, at(second, now+ticks))
			}
			for _, ticks := range []int{1, 50, now} {
				check(t, 2, first, at(second, now-ticks))
				check(t, 3, at(first, 0), at(ask(11, api.CUnknown), now), at(second, now-ticks))
			}
		}
	}
	check(t, 0, ahead...)
}

// TestWantsOfOtherCalls: they have none, not even the booking's own.
func TestWantsOfOtherCalls(t *testing.T) {
	wants := []api.Want{trip, {Book: 7}, {Customer: 1}, {Deadline: 1}, {Units: [3]int{1}}, {Units: [3]int{0, 1}}, {Units: [3]int{0, 0, 1}}, {Price: 1}, {Price: -1}, {Book: math.MinInt}}
	for _, w := range wants {
		for reply := api.CPending; reply <= api.CDown; reply++ {
			for _, a := range calls(reply)[1:] {
				a.Want = w
				check(t, 1, a)
				check(t, 2, book(trip, api.CAccepted), a)
			}
		}
	}
}

// mayReason tells whether a has a Reason just where there is one.
func mayReason(a api.Act) bool {
	if a.Reply == api.CAborted {
		return a.Reason == api.ByResource || a.Reason == api.ByFunds || a.Reason == api.ByDeadline || a.Reason == api.ByCancel
	}
	return a.Reason == 0
}

// TestReasonsThereAreNot: of all replies that may be told but for the Reason.
func TestReasonsThereAreNot(t *testing.T) {
	ahead := []api.Act{book(trip, api.CAccepted), cancel(7, api.CPending)}
	for _, reason := range append(beyond(api.ByResource, api.ByCancel), 0, 1, 2, 3, 4, 5, -1) {
		for _, a := range []api.Act{book(trip, api.CAccepted), book(none, api.CRejected), cancel(7, api.CUnknown), ask(7, api.CUnknown)} {
			checkLast(t, mayReason(by(a, reason)), by(a, reason))
		}
		for _, reply := range []int{api.CPending, api.CBooked, api.CAborted, api.CDown} {
			for _, a := range calls(reply) {
				a = at(by(a, reason), now+9)
				checkLast(t, mayReason(a), append(ahead, a)...)
			}
		}
		a := by(book(none, api.CRejected), reason)
		checkLast(t, mayReason(a), append(ahead, a)...)
	}
}

// Promise 19.1: Check, by booking.

func TestBeforeItWasAccepted(t *testing.T) {
	ahead := [][]api.Act{
		nil,
		{ask(7, api.CUnknown), cancel(7, api.CUnknown), ask(7, api.CDown), cancel(7, api.CDown), book(trip, api.CDown)},
		{book(none, api.CRejected), book(none, api.CRejected)},
		{book(of(8), api.CAccepted), ask(8, api.CPending), cancel(8, api.CPending), ask(8, api.CBooked)},
	}
	for _, l := range ahead {
		for _, a := range slices.Concat(replies(book(trip, 0)), replies(book(none, 0)), replies(cancel(7, 0)), replies(ask(7, 0))) {
			may := a.Reply == api.CDown
			switch {
			case a.Call != api.KBook:
				may = may || a.Reply == api.CUnknown
			case a.Want == trip:
				may = may || a.Reply == api.CAccepted
			default:
				may = may || a.Reply == api.CRejected
			}
			checkLast(t, may && a.Reason == 0, append(slices.Clone(l), a)...)
		}
	}
}

// others answers bookings of trip's number, each of which differs from it in one part; some of them may be.
func others() []api.Want {
	all := []api.Want{none, {Book: 7}}
	for _, change := range []func(*api.Want){
		func(w *api.Want) { w.Customer = 1 },
		func(w *api.Want) { w.Customer = -1 },
		func(w *api.Want) { w.Deadline = 8 },
		func(w *api.Want) { w.Deadline = 0 },
		func(w *api.Want) { w.Units[0] = 2 },
		func(w *api.Want) { w.Units[1] = 1 },
		func(w *api.Want) { w.Units[2] = 0 },
		func(w *api.Want) { w.Units[2] = math.MaxInt },
		func(w *api.Want) { w.Price = 51 },
		func(w *api.Want) { w.Price = 0 },
		func(w *api.Want) { w.Price += 1 << 32 },
	} {
		w := trip
		change(&w)
		all = append(all, w)
	}
	return all
}

// TestWantsThatMayBe: just those are accepted, and just the others are rejected.
func TestWantsThatMayBe(t *testing.T) {
	for _, w := range others() {
		may := w.Customer >= 0 && w.Units != [3]int{} && w.Units[2] <= api.MaxUnits
		checkLast(t, may, book(w, api.CAccepted))
		checkLast(t, !may, book(w, api.CRejected))
	}
}

func TestBehindThat(t *testing.T) {
	ahead := [][]api.Act{
		{book(trip, api.CAccepted)},
		{book(none, api.CRejected), book(trip, api.CAccepted), book(none, api.CRejected), ask(7, api.CDown), ask(8, api.CUnknown)},
		{book(trip, api.CAccepted), ask(7, api.CPending), book(trip, api.CPending), cancel(7, api.CPending)},
	}
	for _, l := range ahead {
		for _, a := range slices.Concat(replies(book(trip, 0)), replies(cancel(7, 0)), replies(ask(7, 0))) {
			may := a.Reply == api.CPending || a.Reply == api.CBooked || a.Reply == api.CDown
			if a.Reply == api.CAborted {
				isCancel := a.Call == api.KCancel || len(l) == 4
				may = a.Reason == api.ByResource || a.Reason == api.ByFunds || a.Reason == api.ByDeadline || a.Reason == api.ByCancel && isCancel
			} else {
				may = may && a.Reason == 0
			}
			checkLast(t, may, append(slices.Clone(l), at(a, now+9))...)
		}
	}
}

// TestAnotherBookingOfItsNumber: it is rejected, and nothing of it is known behind that, whatever was told of the booking.
func TestAnotherBookingOfItsNumber(t *testing.T) {
	ahead := [][]api.Act{
		{book(trip, api.CAccepted)},
		{book(trip, api.CAccepted), cancel(7, api.CPending)},
		{book(trip, api.CAccepted), ask(7, api.CBooked)},
		{book(trip, api.CAccepted), by(ask(7, api.CAborted), api.ByFunds)},
	}
	for _, l := range ahead {
		for _, w := range others() {
			for _, a := range replies(book(w, 0)) {
				checkLast(t, a.Reason == 0 && (a.Reply == api.CRejected || a.Reply == api.CDown), append(slices.Clone(l), a)...)
			}
			last := l[len(l)-1]
			last.Call, last.Want = api.KAsk, api.Want{}
			if last.Reply != api.CAccepted {
				check(t, 0, append(slices.Clone(l), book(w, api.CRejected), last)...)
			}
			check(t, len(l)+2, append(slices.Clone(l), book(w, api.CRejected), book(w, api.CPending))...)
		}
	}
}

// ends answers a told each end that there is.
func ends(a api.Act) []api.Act {
	a.Reply = api.CBooked
	all := []api.Act{by(a, api.ByNone)}
	a.Reply = api.CAborted
	for reason := api.ByResource; reason <= api.ByCancel; reason++ {
		all = append(all, by(a, reason))
	}
	return all
}

// TestOnceAnEndWasTold: just that is told, to all who call, however often.
func TestOnceAnEndWasTold(t *testing.T) {
	for _, call := range calls(0) {
		for _, end := range ends(at(call, now+9)) {
			l := []api.Act{book(trip, api.CAccepted), cancel(7, api.CPending), end, at(ask(8, api.CUnknown), now+9)}
			for _, a := range slices.Concat(replies(book(trip, 0)), replies(cancel(7, 0)), replies(ask(7, 0))) {
				same := a.Reply == end.Reply && a.Reason == end.Reason
				down := a.Reply == api.CDown && a.Reason == 0
				a = at(a, now+10)
				checkLast(t, same || down, append(slices.Clone(l), a)...)
				checkLast(t, same || down, append(slices.Clone(l), at(end, now+10), at(book(none, api.CRejected), now+10), at(ask(7, api.CDown), now+10), a)...)
			}
		}
	}
}

// Promise 19.1: Check, reasons that there were.

func TestByCancel(t *testing.T) {
	gone := by(ask(7, api.CAborted), api.ByCancel)
	again := by(book(trip, api.CAborted), api.ByCancel)
	itself := by(cancel(7, api.CAborted), api.ByCancel)
	accepted := book(trip, api.CAccepted)
	for _, a := range []api.Act{gone, again} {
		check(t, 2, accepted, a)
		check(t, 3, accepted, ask(7, api.CPending), a)
		check(t, 3, accepted, book(trip, api.CPending), a)
		check(t, 0, accepted, cancel(7, api.CPending), a)
		check(t, 0, accepted, cancel(7, api.CPending), ask(7, api.CPending), cancel(7, api.CPending), a)
	}
	check(t, 0, accepted, itself)
	check(t, 0, accepted, cancel(7, api.CPending), itself)
}

// TestByCancelItself: a client that cancels may be told at once that it is aborted for that; from then on there was a cancel, and all are told so.
func TestByCancelItself(t *testing.T) {
	itself := by(cancel(7, api.CAborted), api.ByCancel)
	for _, a := range calls(api.CAborted) {
		check(t, 0, book(trip, api.CAccepted), itself, by(a, api.ByCancel), by(a, api.ByCancel))
		check(t, 3, book(trip, api.CAccepted), itself, by(a, api.ByFunds))
	}
}

// TestByCancelOfNone: what was told to no client, or ahead of the booking, or of another one, cancels nothing.
func TestByCancelOfNone(t *testing.T) {
	gone := by(ask(7, api.CAborted), api.ByCancel)
	check(t, 3, book(trip, api.CAccepted), cancel(7, api.CDown), gone)
	check(t, 3, cancel(7, api.CUnknown), book(trip, api.CAccepted), gone)
	check(t, 4, book(trip, api.CAccepted), book(of(8), api.CAccepted), cancel(8, api.CPending), gone)
	check(t, 4, book(trip, api.CAccepted), book(of(8), api.CAccepted), by(cancel(8, api.CAborted), api.ByCancel), gone)
	check(t, 4, cancel(7, api.CDown), book(trip, api.CAccepted), ask(7, api.CPending), gone)
}

// TestACancelThatIsTooLate: a booking whose client cancels is booked all the same, or aborted for another reason.
func TestACancelThatIsTooLate(t *testing.T) {
	for _, call := range calls(0) {
		for _, end := range ends(at(call, now+9)) {
			check(t, 0, book(trip, api.CAccepted), cancel(7, api.CPending), end)
		}
	}
	check(t, 0, book(trip, api.CAccepted), cancel(7, api.CBooked), ask(7, api.CBooked))
}

func TestByDeadline(t *testing.T) {
	for _, deadline := range []int{1, 2, 9, 1000, api.MaxTick - now, api.MaxTick - now + 1, api.MaxTick - 1, api.MaxTick} {
		w := trip
		w.Deadline = deadline
		for _, call := range []api.Act{book(w, 0), cancel(7, 0), ask(7, 0)} {
			call.Reply, call.Reason = api.CAborted, api.ByDeadline
			for _, tick := range []int{now, now + 1, now + 8, now + deadline - 1, now + deadline, now + deadline + 1, api.MaxTick} {
				if tick <= api.MaxTick {
					checkLast(t, tick-now >= deadline, book(w, api.CAccepted), at(call, tick))
				}
			}
		}
	}
}

// TestByDeadlineOfNone: a Deadline of 0 is any time.
func TestByDeadlineOfNone(t *testing.T) {
	w := trip
	w.Deadline = 0
	for _, tick := range []int{now, now + 1, now + 1000, api.MaxTick} {
		check(t, 2, book(w, api.CAccepted), by(at(ask(7, api.CAborted), tick), api.ByDeadline))
	}
}

// TestByDeadlineSinceItWasAccepted: neither since it was first called, nor since it was last told of, nor since another one was accepted.
func TestByDeadlineSinceItWasAccepted(t *testing.T) {
	late := by(ask(7, api.CAborted), api.ByDeadline)
	ahead := []api.Act{
		at(book(trip, api.CDown), 0), at(book(none, api.CRejected), 1), at(ask(7, api.CUnknown), 2), at(book(of(8), api.CAccepted), 3),
		book(trip, api.CAccepted),
		at(book(of(9), api.CAccepted), now+1), at(book(trip, api.CPending), now+5), at(book(none, api.CRejected), now+6), at(ask(7, api.CPending), now+8),
	}
	checkLast(t, false, append(slices.Clone(ahead), at(late, now+8))...)
	checkLast(t, true, append(slices.Clone(ahead), at(late, now+9))...)
	other := by(ask(8, api.CAborted), api.ByDeadline)
	checkLast(t, true, append(slices.Clone(ahead), at(other, now+8))...)
	checkLast(t, false, append(slices.Clone(ahead), at(by(ask(9, api.CAborted), api.ByDeadline), now+9))...)
}

// TestByDeadlineOfItsOwn: not of one that was rejected.
func TestByDeadlineOfItsOwn(t *testing.T) {
	hasty, patient := trip, trip
	hasty.Deadline, patient.Deadline = 1, 0
	late := by(at(ask(7, api.CAborted), now+1), api.ByDeadline)
	check(t, 3, book(patient, api.CAccepted), book(hasty, api.CRejected), late)
	check(t, 0, book(hasty, api.CAccepted), book(patient, api.CRejected), late)
}

func TestByFunds(t *testing.T) {
	for price, may := range map[int64]bool{0: false, 1: true, 50: true, 1 << 32: true, api.MaxPrice: true} {
		w, other := trip, trip
		w.Price, other.Price = price, 7-min(price, 7)
		for _, call := range []api.Act{book(w, 0), cancel(7, 0), ask(7, 0)} {
			call.Reply, call.Reason = api.CAborted, api.ByFunds
			checkLast(t, may, book(w, api.CAccepted), call)
			checkLast(t, may, book(w, api.CAccepted), book(other, api.CRejected), cancel(7, api.CPending), call)
		}
	}
}

// TestByResource: there may always have been that one.
func TestByResource(t *testing.T) {
	w := api.Want{Book: 7, Units: [3]int{1}}
	for _, call := range []api.Act{book(w, 0), cancel(7, 0), ask(7, 0)} {
		call.Reply, call.Reason = api.CAborted, api.ByResource
		check(t, 0, book(w, api.CAccepted), call)
	}
}

// TestNobodyIsThere: that may be told at any time, and says nothing.
func TestNobodyIsThere(t *testing.T) {
	l := []api.Act{ask(7, api.CUnknown), book(trip, api.CAccepted), cancel(7, api.CPending), ask(7, api.CPending), by(ask(7, api.CAborted), api.ByCancel), book(trip, api.CAborted)}
	l[5].Reason = api.ByCancel
	check(t, 0, l...)
	for i := range len(l) + 1 {
		for _, down := range append(calls(api.CDown), book(none, api.CDown), ask(8, api.CDown)) {
			check(t, 0, slices.Insert(slices.Clone(l), i, down)...)
			check(t, 0, slices.Insert(slices.Clone(l), i, down, down, down)...)
		}
	}
	for _, down := range calls(api.CDown) {
		check(t, 2, down, ask(7, api.CPending))
		check(t, 2, down, book(trip, api.CRejected))
	}
}

// TestBookingsAreEachTheirOwn: all of them, one between the other, each with another end.
func TestBookingsAreEachTheirOwn(t *testing.T) {
	var l []api.Act
	for number := 1; number <= api.MaxBook; number++ {
		l = append(l, book(of(number), api.CAccepted))
	}
	for number := 1; number <= api.MaxBook; number += 2 {
		l = append(l, cancel(number, api.CPending))
	}
	for number := 1; number <= api.MaxBook; number++ {
		l = append(l, at(ends(ask(number, 0))[1-number%2:][number%4], now+9))
	}
	check(t, 0, l...)
	for number := 1; number <= api.MaxBook; number++ {
		same := l[len(l)-api.MaxBook+number-1]
		checkLast(t, true, append(slices.Clone(l), same)...)
		checkLast(t, false, append(slices.Clone(l), at(ask(number, api.CPending), now+9))...)
		checkFinal(t, l, number, same.Reply, same.Reason)
	}
}

// TestTheFirstOne: where several acts may not be, it is told.
func TestTheFirstOne(t *testing.T) {
	bad := []api.Act{{}, ask(7, api.CPending), ask(0, api.CUnknown), by(ask(7, api.CUnknown), 1)}
	check(t, 1, bad...)
	check(t, 2, slices.Insert(bad, 0, ask(7, api.CUnknown))...)
	check(t, 3, slices.Insert(bad, 0, ask(8, api.CUnknown), at(ask(7, api.CUnknown), 2*now))...)
}

// Rules that hold for all calls.

func TestNothingHandedInIsChanged(t *testing.T) {
	l := []api.Act{book(trip, api.CAccepted), cancel(7, api.CPending), by(ask(7, api.CAborted), api.ByCancel), ask(7, api.CPending)}
	was := slices.Clone(l)
	for range 3 {
		check(t, 4, l...)
		check(t, 0, l[:3]...)
		checkFinal(t, l, 7, api.CAborted, api.ByCancel)
		if !slices.Equal(l, was) {
			t.Fatalf("%+v became %+v", was, l)
		}
	}
	check(t, 1, ask(7, api.CPending)) // nothing is known from an earlier call
}

// Promise 19.2: Final.

func TestFinal(t *testing.T) {
	ahead := []api.Act{book(of(8), api.CAccepted), ask(8, api.CBooked), book(trip, api.CAccepted), cancel(7, api.CPending), book(none, api.CRejected), ask(7, api.CDown)}
	checkFinal(t, ahead, 7, 0, 0)
	for _, call := range calls(0) {
		for _, end := range ends(at(call, now+9)) {
			l := append(slices.Clone(ahead), end)
			checkFinal(t, l, 7, end.Reply, end.Reason)
			checkFinal(t, append(l, at(by(ask(9, api.CAborted), api.ByFunds), now+9)), 7, end.Reply, end.Reason)
			checkFinal(t, l, 8, api.CBooked, 0)
			for _, other := range []int{9, 1, 200, 0, -7, 201, 7 + 1<<32, math.MinInt, math.MaxInt} {
				checkFinal(t, l, other, 0, 0)
			}
		}
	}
}

func TestFinalOfNothing(t *testing.T) {
	for _, number := range []int{7, 1, 0, -1, math.MinInt, math.MaxInt} {
		checkFinal(t, nil, number, 0, 0)
		checkFinal(t, []api.Act{}, number, 0, 0)
	}
	for _, reply := range []int{api.CAccepted, api.CPending, api.CRejected, api.CUnknown, api.CDown} {
		checkFinal(t, calls(reply), 7, 0, 0)
	}
}

// TestFinalIsTheFirst: of two that were told, whichever they are.
func TestFinalIsTheFirst(t *testing.T) {
	for _, first := range ends(ask(7, 0)) {
		for _, second := range ends(cancel(7, 0)) {
			l := []api.Act{book(trip, api.CAccepted), first, second, first}
			checkFinal(t, l, 7, first.Reply, first.Reason)
			checkFinal(t, l[2:], 7, second.Reply, second.Reason)
		}
	}
}
