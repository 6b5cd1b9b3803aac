package host_test

import (
	"bytes"
	"encoding/binary"
	"fmt"
	"math"
	"math/rand"
	"slices"
	"testing"

	"sojourn/api"
	"sojourn/host"
	"sojourn/stock"
)

// noTicks are numbers that no clock may show.
var noTicks = []int{math.MinInt, -1 << 41, -1 << 32, -api.HoldFor, -1, api.MaxTick + 1, api.MaxTick + api.HoldFor, 1 << 62, math.MaxInt}

// noBooks are numbers that no booking has.
var noBooks = []int{math.MinInt, -1 << 32, 1 - 1<<32, -1, 0, api.MaxBook + 1, 1<<32 + 1, math.MaxInt}

// kinds are what an inventory may be asked.
var kinds = []int{api.OpHold, api.OpConfirm, api.OpRelease}

// gone is a booking that has nothing any more.
var gone = api.Entry{State: api.SGone}

// hold, confirm and release answer what an inventory is asked.
func hold(book, units int) api.Op { return api.Op{Kind: api.OpHold, Book: book, Units: units} }
func confirm(book int) api.Op     { return api.Op{Kind: api.OpConfirm, Book: book} }
func release(book int) api.Op     { return api.Op{Kind: api.OpRelease, Book: book} }

// opOf answers an operation of that kind; a hold is one of so many units.
func opOf(kind, book, units int) api.Op {
	if kind == api.OpHold {
		return hold(book, units)
	}
	return api.Op{Kind: kind, Book: book}
}

// held and confirmed answer bookings that have units.
func held(units, until int) api.Entry {
	return api.Entry{State: api.SHeld, Units: units, Until: until}
}
func confirmed(units int) api.Entry {
	return api.Entry{State: api.SConfirmed, Units: units}
}

// newHost answers a host of so many units.
func newHost(t testing.TB, units, over int) *host.Host {
	t.Helper()
	h, err := host.New(api.Stock{Cap: units, Over: over})
	if h == nil || err != api.OK {
		t.Fatalf("New of %d, %d: %v, %d", units, over, h, err)
	}
	return h
}

// checkAsk fails if something else is answered, or it is not new, or new, as it should be.
func checkAsk(t testing.TB, h *host.Host, o api.Op, now, want int, wantNew bool) {
	t.Helper()
	if got, isNew := h.Ask(o, now); got != want || isNew != wantNew {
		t.Errorf("Ask(%+v, %d): %d, %v, not %d, %v", o, now, got, isNew, want, wantNew)
	}
}

// done asks what was never asked, one behind the other, and fails if one is not done.
func done(t testing.TB, h *host.Host, now int, ops ...api.Op) {
	t.Helper()
	for _, o := range ops {
		checkAsk(t, h, o, now, api.Done, true)
	}
}

// checkEntry fails if the booking is another one.
func checkEntry(t testing.TB, h *host.Host, book int, want api.Entry) {
	t.Helper()
	if got := h.Stock().Entry(book); got != want {
		t.Errorf("Entry(%d): %+v, not %+v", book, got, want)
	}
}

// checkSums fails if other units are free, held, confirmed.
func checkSums(t testing.TB, h *host.Host, free, held, confirmed int) {
	t.Helper()
	l := h.Stock()
	if l.Free() != free || l.Held() != held || l.Confirmed() != confirmed {
		t.Errorf("free, held, confirmed: %d, %d, %d, not %d, %d, %d", l.Free(), l.Held(), l.Confirmed(), free, held, confirmed)
	}
}

// checkAnswers fails if there are not just so many.
func checkAnswers(t testing.TB, h *host.Host, want int) {
	t.Helper()
	if got := h.Answers(); got != want {
		t.Errorf("Answers: %d, not %d", got, want)
	}
}

// checkSweep fails if other bookings are over.
func checkSweep(t testing.TB, h *host.Host, now int, want ...int) {
	t.Helper()
	if got := h.Sweep(now); !slices.Equal(got, want) {
		t.Errorf("Sweep(%d): %v, not %v", now, got, want)
	}
}

// ints answers the bytes of numbers, each as chapter 1's Int.
func ints(l ...int) []byte {
	var out []byte
	for _, v := range l {
		out = binary.AppendVarint(out, int64(v))
	}
	return out
}

// checkBytes fails if Bytes are not those of the numbers.
func checkBytes(t testing.TB, h *host.Host, want ...int) {
	t.Helper()
	if got := h.Bytes(); !bytes.Equal(got, ints(want...)) {
		t.Errorf("Bytes: %x, not %x", got, ints(want...))
	}
}

// Promise 12.1: New.

func TestNewOfRooms(t *testing.T) {
	edges := []int{0, 1, 2, 1000, api.MaxRoom - 1, api.MaxRoom}
	for _, units := range edges {
		for _, over := range edges {
			h := newHost(t, units, over)
			checkSums(t, h, units+over, 0, 0)
			checkAnswers(t, h, 0)
			checkBytes(t, h, units, over, 0)
			checkSweep(t, h, api.MaxTick)
			for _, book := range append([]int{1, 2, api.MaxBook}, noBooks...) {
				checkEntry(t, h, book, api.Entry{})
			}
		}
	}
}

func TestNewOfNoRooms(t *testing.T) {
	check := func(s api.Stock) {
		if h, err := host.New(s); h != nil || err != api.ErrArg {
			t.Errorf("New(%+v): %v, %d", s, h, err)
		}
	}
	no := []int{math.MinInt, -1 << 32, -api.MaxRoom, -1, api.MaxRoom + 1, 1 << 32, 1<<32 + 1, math.MaxInt}
	for _, wrong := range no {
		for _, right := range []int{0, 1, api.MaxRoom} {
			check(api.Stock{Cap: wrong, Over: right})
			check(api.Stock{Cap: right, Over: wrong})
		}
		for _, other := range no {
			check(api.Stock{Cap: wrong, Over: other})
		}
	}
}

func TestHostsAreApart(t *testing.T) {
	one, other := newHost(t, 5, 0), newHost(t, 5, 0)
	done(t, one, 0, hold(1, 3))
	checkSums(t, other, 5, 0, 0)
	checkAnswers(t, other, 0)
	checkAsk(t, other, hold(1, 4), 0, api.Done, true)
	checkAsk(t, one, hold(1, 3), 0, api.Done, false)
}

// Promise 12.1: Ask, what is new. In these tests booking 1 is in one of the states; 10 units are there; it has 3, held till 60.

var states = []api.Entry{{}, {State: api.SHeld, Units: 3, Until: 60}, {State: api.SConfirmed, Units: 3}, {State: api.SGone}}

// inState answers a host whose booking 1 is in that state, and how many answers it took.
func inState(t testing.TB, e api.Entry) (*host.Host, int) {
	t.Helper()
	h := newHost(t, 8, 2)
	var ops []api.Op
	switch e.State {
	case api.SHeld, api.SGone:
		ops = []api.Op{hold(1, 3)}
	case api.SConfirmed:
		ops = []api.Op{hold(1, 3), confirm(1)}
	}
	done(t, h, 0, ops...)
	if e.State == api.SGone {
		checkSweep(t, h, 60, 1)
	}
	checkEntry(t, h, 1, e)
	return h, len(ops)
}

func TestAskOfWhatIsNew(t *testing.T) {
	for _, c := range []struct {
		state int
		op    api.Op
		now   int
		want  int
		entry api.Entry
	}{
		{api.SNone, hold(1, 1), 7, api.Done, held(1, 67)},
		{api.SNone, hold(1, 10), 0, api.Done, held(10, 60)},
		{api.SNone, hold(1, 11), 0, api.Refused, gone},
		{api.SNone, hold(1, api.MaxUnits), 0, api.Refused, gone},
		{api.SNone, confirm(1), 0, api.Refused, gone},
		{api.SNone, release(1), 0, api.Done, gone},
		{api.SHeld, confirm(1), 0, api.Done, confirmed(3)},
		{api.SHeld, confirm(1), 59, api.Done, confirmed(3)},
		{api.SHeld, confirm(1), 60, api.Refused, gone},
		{api.SHeld, confirm(1), api.MaxTick, api.Refused, gone},
		{api.SHeld, release(1), 0, api.Done, gone},
		{api.SHeld, release(1), api.MaxTick, api.Done, gone},
		{api.SConfirmed, release(1), 0, api.Done, gone},
		{api.SConfirmed, release(1), api.MaxTick, api.Done, gone},
		{api.SGone, confirm(1), 0, api.Refused, gone},
		{api.SGone, release(1), 0, api.Done, gone},
	} {
		h, answers := inState(t, states[c.state])
		checkAsk(t, h, c.op, c.now, c.want, true)
		checkEntry(t, h, 1, c.entry)
		checkAnswers(t, h, answers+1)
		for _, now := range []int{c.now, 0, 5, 60, api.MaxTick} {
			checkAsk(t, h, c.op, now, c.want, false)
			checkEntry(t, h, 1, c.entry)
			checkAnswers(t, h, answers+1)
		}
	}
}

// checkNotAsked fails if what is asked is not refused, or is noted, or changes something, in any of the states.
func checkNotAsked(t *testing.T, o api.Op, now int) {
	t.Helper()
	for _, e := range states {
		h, answers := inState(t, e)
		before := h.Bytes()
		checkAsk(t, h, o, now, api.Refused, false)
		checkAsk(t, h, o, now, api.Refused, false)
		checkAnswers(t, h, answers)
		checkEntry(t, h, 1, e)
		if !bytes.Equal(h.Bytes(), before) {
			t.Errorf("Ask(%+v, %d) of %+v: %x became %x", o, now, e, before, h.Bytes())
		}
	}
}

func TestAskOfWhatMayNotBe(t *testing.T) {
	no := []api.Op{{}}
	for _, book := range noBooks {
		no = append(no, hold(book, 3), confirm(book), release(book))
	}
	for _, units := range []int{math.MinInt, -3, -1, 0, api.MaxUnits + 1, 1<<32 + 3, math.MaxInt} {
		no = append(no, hold(1, units))
	}
	for _, units := range []int{-3, -1, 1, 3} {
		no = append(no, api.Op{Kind: api.OpConfirm, Book: 1, Units: units}, api.Op{Kind: api.OpRelease, Book: 1, Units: units})
	}
	for _, o := range []api.Op{hold(1, 3), confirm(1), release(1)} {
		withCustomer, withAmount := o, o
		withCustomer.Customer, withAmount.Amount = 1, 1
		no = append(no, withCustomer, withAmount)
	}
	for _, kind := range []int{math.MinInt, -1, 0, 7, 1<<32 + 1, math.MaxInt} {
		no = append(no, api.Op{Kind: kind, Book: 1}, api.Op{Kind: kind, Book: 1, Units: 3})
	}
	for _, o := range no {
		checkNotAsked(t, o, 5)
	}
}

func TestAskOfThePursesKinds(t *testing.T) {
	for _, o := range []api.Op{
		{Kind: api.OpAuth, Book: 1}, {Kind: api.OpAuth, Book: 1, Customer: 1, Amount: 3},
		{Kind: api.OpCapture, Book: 1}, {Kind: api.OpVoid, Book: 1},
	} {
		checkNotAsked(t, o, 5)
	}
}

func TestAskAtNoTick(t *testing.T) {
	for _, now := range noTicks {
		for _, o := range []api.Op{hold(1, 3), hold(1, 4), hold(1, 11), confirm(1), release(1)} {
			checkNotAsked(t, o, now)
		}
	}
}

// TestWhatMayNotBeTakesNoPlace: what was refused for that it may not be asked is new when it is asked rightly.
func TestWhatMayNotBeTakesNoPlace(t *testing.T) {
	h := newHost(t, 9, 0)
	for _, kind := range kinds {
		checkAsk(t, h, opOf(kind, 1, 2), -1, api.Refused, false)
		checkAsk(t, h, opOf(kind, 1, 2), api.MaxTick+1, api.Refused, false)
		checkAsk(t, h, api.Op{Kind: kind, Book: 1, Units: 2, Amount: 1}, 0, api.Refused, false)
		done(t, h, 0, opOf(kind, 1, 2))
	}
	checkBytes(t, h, 9, 0, 1, api.SGone, 0, 0, 3, 1, 1, 1, 1, 2, 1, 1, 3, 1)
}

// TestWhatMayNotBeIsNotFound: though its Book and Kind have an answer, what may not be asked isn't told that.
func TestWhatMayNotBeIsNotFound(t *testing.T) {
	h := newHost(t, 9, 0)
	done(t, h, 0, hold(1, 2), confirm(1), release(1))
	for _, kind := range kinds {
		for _, now := range noTicks {
			checkAsk(t, h, opOf(kind, 1, 2), now, api.Refused, false)
		}
		checkAsk(t, h, api.Op{Kind: kind, Book: 1, Units: -1}, 0, api.Refused, false)
		checkAsk(t, h, api.Op{Kind: kind, Book: 1, Customer: 1}, 0, api.Refused, false)
		checkAsk(t, h, opOf(kind, 1, 2), 0, api.Done, false)
	}
}

func TestAskAtAllTicks(t *testing.T) {
	for _, now := range []int{0, 1, 1 << 31, 1 << 32, api.MaxTick - api.HoldFor, api.MaxTick - 1, api.MaxTick} {
		h := newHost(t, 5, 0)
		done(t, h, now, hold(1, 2), hold(2, 2))
		checkEntry(t, h, 1, held(2, now+60))
		checkSweep(t, h, now)
		done(t, h, min(now+59, api.MaxTick), confirm(1))
		done(t, h, now, release(2))
		checkSums(t, h, 3, 0, 2)
		checkBytes(t, h, 5, 0, 1, api.SConfirmed, 2, 0, 2, api.SGone, 0, 0, 4, 1, 1, 1, 1, 2, 1, 2, 1, 1, 2, 3, 1)
	}
}

func TestAskOfAllBooks(t *testing.T) {
	h := newHost(t, 200*api.MaxUnits, 0)
	for i, kind := range kinds {
		for book := 1; book <= api.MaxBook; book++ {
			done(t, h, 0, opOf(kind, book, api.MaxUnits))
			checkAnswers(t, h, i*api.MaxBook+book)
		}
		for book := 1; book <= api.MaxBook; book++ {
			checkAsk(t, h, opOf(kind, book, 1), 90, api.Done, false)
		}
		checkAnswers(t, h, (i+1)*api.MaxBook)
	}
	checkSums(t, h, 200*api.MaxUnits, 0, 0)
}

// The examples of the chapter, and of DOC.md: those of an inventory.

func TestExamples(t *testing.T) {
	h := newHost(t, 9, 0)
	checkAsk(t, h, hold(1, 2), 0, api.Done, true)
	checkAsk(t, h, hold(1, 2), 0, api.Done, false)

	h = newHost(t, 2, 1)
	checkAsk(t, h, hold(1, 2), 0, api.Done, true)
	checkAsk(t, h, hold(2, 2), 0, api.Refused, true)
	checkAsk(t, h, hold(3, 1), 0, api.Done, true)
	checkSums(t, h, 0, 3, 0)

	for now, want := range map[int]int{5: api.Done, 64: api.Done, 65: api.Refused} {
		h = newHost(t, 2, 0)
		done(t, h, 5, hold(1, 2))
		checkAsk(t, h, confirm(1), now, want, true)
	}

	h = newHost(t, 2, 0)
	checkAsk(t, h, release(1), 0, api.Done, true)
	checkAsk(t, h, hold(1, 1), 0, api.Refused, true)
	checkSums(t, h, 2, 0, 0)
}

// Promise 12.3: an operation that comes twice is done once.

// TestTwiceIsToldTheSame: by Book and Kind alone, though the stock would answer otherwise by now.
func TestTwiceIsToldTheSame(t *testing.T) {
	h := newHost(t, 5, 0)
	done(t, h, 0, hold(1, 3))
	checkAsk(t, h, hold(2, 3), 0, api.Refused, true)
	checkAsk(t, h, hold(1, 4), 0, api.Done, false)    // another hold than the one that was done
	checkAsk(t, h, hold(1, 1000), 0, api.Done, false) // more than there are
	checkEntry(t, h, 1, held(3, 60))
	done(t, h, 0, release(1))
	checkAsk(t, h, hold(1, 3), 0, api.Done, false)    // it is gone
	checkAsk(t, h, hold(2, 1), 0, api.Refused, false) // there is room
	checkEntry(t, h, 1, gone)
	checkAsk(t, h, confirm(1), 0, api.Refused, true)
	checkAsk(t, h, confirm(1), 0, api.Refused, false)
	checkSums(t, h, 5, 0, 0)
	checkAnswers(t, h, 4)
}

// TestTwiceHoldsNoLonger: a hold that comes again is held as long as the first one.
func TestTwiceHoldsNoLonger(t *testing.T) {
	h := newHost(t, 5, 0)
	done(t, h, 3, hold(1, 2))
	checkAsk(t, h, hold(1, 2), 62, api.Done, false)
	checkEntry(t, h, 1, held(2, 63))
	checkAsk(t, h, confirm(1), 63, api.Refused, true)
	checkAsk(t, h, confirm(1), 5, api.Refused, false) // at that time it had been done
	checkEntry(t, h, 1, gone)
}

// TestTwiceAcrossSweep: an answer stands, though its booking's time be over.
func TestTwiceAcrossSweep(t *testing.T) {
	h := newHost(t, 5, 0)
	done(t, h, 0, hold(1, 2))
	checkSweep(t, h, 60, 1)
	checkAnswers(t, h, 1)
	checkAsk(t, h, hold(1, 2), 61, api.Done, false)
	checkEntry(t, h, 1, gone)
	checkAsk(t, h, confirm(1), 61, api.Refused, true)
	checkSums(t, h, 5, 0, 0)
}

// TestNoKindForAnother: the answer to one kind, or of one booking, is none to another.
func TestNoKindForAnother(t *testing.T) {
	for _, first := range kinds {
		for _, second := range kinds {
			h := newHost(t, 5, 0)
			_, isNew := h.Ask(opOf(first, 1, 2), 0)
			_, isOtherNew := h.Ask(opOf(second, 1, 2), 0)
			_, isThirdNew := h.Ask(opOf(first, 2, 2), 0)
			if !isNew || isOtherNew != (first != second) || !isThirdNew {
				t.Errorf("%d, %d: %v, %v, %v", first, second, isNew, isOtherNew, isThirdNew)
			}
		}
	}
}

// TestAllOrNothing is T1, as far as one inventory goes: whatever comes how often and in whichever order, a booking has just its units, held or confirmed, or nothing; and behind a release nothing for good.
func TestAllOrNothing(t *testing.T) {
	for seed := range int64(200) {
		random := rand.New(rand.NewSource(seed))
		h := newHost(t, 8, 2)
		ended := false
		for range 12 {
			o := opOf(kinds[random.Intn(3)], 1, 3)
			h.Ask(o, random.Intn(70))
			if random.Intn(20) == 0 {
				h.Sweep(random.Intn(130))
			}
			ended = ended || o.Kind == api.OpRelease
			e := h.Stock().Entry(1)
			switch {
			case e == gone || e == api.Entry{}:
				checkSums(t, h, 10, 0, 0)
			case e.State == api.SHeld && e.Units == 3 && !ended:
				checkSums(t, h, 7, 3, 0)
			case e == confirmed(3) && !ended:
				checkSums(t, h, 7, 0, 3)
			default:
				t.Fatalf("seed %d: %+v, released %v", seed, e, ended)
			}
		}
	}
}

// Promise 12.1: Sweep, Stock; and rule 2: what is answered is the caller's.

func TestSweep(t *testing.T) {
	h := newHost(t, 100, 0)
	for i, book := range []int{200, 7, 30, 1, 100, 55} { // until 60, 61, .. 65
		done(t, h, i, hold(book, i+1))
	}
	done(t, h, 9, confirm(30), release(100))
	checkSweep(t, h, 59)
	checkSweep(t, h, 60, 200)
	checkSweep(t, h, 60)
	checkEntry(t, h, 200, gone)
	checkEntry(t, h, 7, held(2, 61))
	for _, now := range noTicks {
		checkSweep(t, h, now)
	}
	checkSweep(t, h, 64, 1, 7)
	checkSweep(t, h, api.MaxTick, 55)
	checkSums(t, h, 97, 0, 3)
	checkAnswers(t, h, 8)
}

func TestSweepOfAll(t *testing.T) {
	h := newHost(t, 1000, 0)
	var all []int
	for book := api.MaxBook; book >= 1; book-- {
		done(t, h, book%7, hold(book, 1))
		all = append(all, book)
	}
	slices.Reverse(all)
	checkSweep(t, h, 66, all...)
	checkSums(t, h, 1000, 0, 0)
	checkAnswers(t, h, api.MaxBook)
}

func TestStockIsACopy(t *testing.T) {
	for _, fill := range []bool{false, true} {
		h := newHost(t, 9, 1)
		if fill {
			done(t, h, 0, hold(1, 2), hold(2, 3), confirm(2))
		}
		before := h.Bytes()
		one, other := h.Stock(), h.Stock()
		if one == other || !bytes.HasPrefix(before, one.Bytes()) {
			t.Fatalf("Stock: %x of %x", one.Bytes(), before)
		}
		one.Do(hold(3, 1), 0)
		one.Do(release(1), 0)
		one.Do(release(2), 0)
		if one.Sweep(api.MaxTick); !bytes.Equal(h.Bytes(), before) {
			t.Errorf("what was done to the copy became of %x %x", before, h.Bytes())
		}
		kept := other.Bytes()
		done(t, h, 0, hold(4, 1), release(2))
		if h.Sweep(60); !bytes.Equal(other.Bytes(), kept) {
			t.Errorf("what was done to the host became of its copy %x %x", kept, other.Bytes())
		}
	}
}

func TestAnswersAreTheCallers(t *testing.T) {
	h := newHost(t, 9, 0)
	done(t, h, 0, hold(1, 2), hold(2, 3))
	before := h.Bytes()
	b := h.Bytes()
	for i := range b {
		b[i] = 0xff
	}
	if _ = append(h.Bytes()[:1], 9, 9); !bytes.Equal(h.Bytes(), before) {
		t.Errorf("%x became %x", before, h.Bytes())
	}
	over := h.Sweep(60)
	over[0], over[1] = 7, 7
	checkEntry(t, h, 1, gone)
	checkEntry(t, h, 7, api.Entry{})
	done(t, h, 60, hold(7, 1))
}

// Promise 12.2: Bytes.

func TestBytesByHand(t *testing.T) {
	h := newHost(t, 64, 1)
	done(t, h, 4, hold(200, 64), hold(3, 1), confirm(3))
	checkAsk(t, h, hold(70, 1), 4, api.Refused, true)
	want := []byte{
		0x80, 0x01, 0x02,
		0x06, 0x04, 0x02, 0x00,
		0x8c, 0x01, 0x06, 0x00, 0x00,
		0x90, 0x03, 0x02, 0x80, 0x01, 0x80, 0x01,
		0x08,
		0x06, 0x02, 0x02,
		0x06, 0x04, 0x02,
		0x8c, 0x01, 0x02, 0x04,
		0x90, 0x03, 0x02, 0x02,
	}
	if !bytes.Equal(h.Bytes(), want) {
		t.Errorf("Bytes: %x, not %x", h.Bytes(), want)
	}
}

// TestBytesOfManyAnswers: their number, too, is of more than one byte.
func TestBytesOfManyAnswers(t *testing.T) {
	h := newHost(t, 10, 0)
	numbers, notes := []int{10, 0}, []int{}
	for book := api.MaxBook; book >= 1; book-- {
		checkAsk(t, h, release(book), 0, api.Done, true)
		checkAsk(t, h, confirm(book), 0, api.Refused, true)
		checkAsk(t, h, hold(book, 1), 0, api.Refused, true)
	}
	for book := 1; book <= api.MaxBook; book++ {
		numbers = append(numbers, book, api.SGone, 0, 0)
		notes = append(notes, book, 1, api.Refused, book, 2, api.Refused, book, 3, api.Done)
	}
	checkBytes(t, h, slices.Concat(numbers, []int{600}, notes)...)
}

// TestBytesOfEachNumberOfAnswers: at 63 and 64 the bytes of that number become two.
func TestBytesOfEachNumberOfAnswers(t *testing.T) {
	h := newHost(t, 0, 0)
	numbers, notes := []int{0, 0}, []int{}
	for book := 1; book <= api.MaxBook; book++ {
		checkAsk(t, h, confirm(book), 0, api.Refused, true)
		numbers = append(numbers, book, api.SGone, 0, 0)
		notes = append(notes, book, api.OpConfirm, api.Refused)
		checkBytes(t, h, slices.Concat(numbers, []int{book}, notes)...)
	}
}

// TestBytesTellAnswersApart: hosts of the same stock that answered otherwise have other bytes.
func TestBytesTellAnswersApart(t *testing.T) {
	one, other := newHost(t, 5, 0), newHost(t, 5, 0)
	checkAsk(t, one, confirm(1), 0, api.Refused, true)
	done(t, other, 0, release(1))
	checkBytes(t, one, 5, 0, 1, api.SGone, 0, 0, 1, 1, api.OpConfirm, api.Refused)
	checkBytes(t, other, 5, 0, 1, api.SGone, 0, 0, 1, 1, api.OpRelease, api.Done)
}

// Promise 12.2: of nil; and rule 1: no call panics.

func TestNil(t *testing.T) {
	var none *host.Host
	for _, now := range append([]int{0, 1, api.MaxTick}, noTicks...) {
		for _, o := range []api.Op{hold(1, 1), confirm(1), release(1), {}} {
			checkAsk(t, none, o, now, api.Refused, false)
		}
		checkSweep(t, none, now)
	}
	checkAnswers(t, none, 0)
	if b, l := none.Bytes(), none.Stock(); len(b) != 0 || l != nil {
		t.Errorf("of nil: Bytes %x, Stock %v", b, l)
	}
}

func TestZeroHost(t *testing.T) {
	var h host.Host
	checkSweep(t, &h, api.MaxTick)
	checkBytes(t, &h, 0, 0, 0)
	checkAsk(t, &h, hold(1, 1), 0, api.Refused, true)
	checkAsk(t, &h, hold(1, 1), 0, api.Refused, false)
	done(t, &h, 0, release(2))
	checkEntry(t, &h, 1, gone)
	checkSums(t, &h, 0, 0, 0)
	checkBytes(t, &h, 0, 0, 1, api.SGone, 0, 0, 2, api.SGone, 0, 0, 2, 1, 1, 2, 2, 3, 1)
}

// Promises 12.1 to 12.3, T2: any calls, beside an inventory that is asked each thing just once.

// note is an answer in the plain list.
type note struct{ book, kind, answer int }

// plain is a host by the chapter's words: a stock, and a list of what was answered.
type plain struct {
	units int
	stock *stock.Ledger
	notes []note
}

// ask answers what a host does.
func (p *plain) ask(o api.Op, now int) (int, bool) {
	units := o.Kind == api.OpHold && o.Units >= 1 && o.Units <= api.MaxUnits || o.Kind != api.OpHold && o.Units == 0
	if !units || !slices.Contains(kinds, o.Kind) || o.Book < 1 || o.Book > api.MaxBook || o.Customer != 0 || o.Amount != 0 || now < 0 || now > api.MaxTick {
		return api.Refused, false
	}
	for _, n := range p.notes {
		if n.book == o.Book && n.kind == o.Kind {
			return n.answer, false
		}
	}
	answer := p.stock.Do(o, now)
	p.notes = append(p.notes, note{o.Book, o.Kind, answer})
	return answer, true
}

// bytes answers what Bytes has.
func (p *plain) bytes() []byte {
	out := append(p.stock.Bytes(), ints(len(p.notes))...)
	for book := 1; book <= api.MaxBook; book++ {
		for _, kind := range kinds {
			for _, n := range p.notes {
				if n.book == book && n.kind == kind {
					out = append(out, ints(n.book, n.kind, n.answer)...)
				}
			}
		}
	}
	return out
}

// checkHost fails if the host is not as the plain one is, or its sums are not all that there is.
func checkHost(t *testing.T, h *host.Host, p *plain) {
	t.Helper()
	l := h.Stock()
	if !bytes.Equal(l.Bytes(), p.stock.Bytes()) {
		t.Errorf("Stock: %x, not %x", l.Bytes(), p.stock.Bytes())
	}
	if l.Free()+l.Held()+l.Confirmed() != p.units || min(l.Free(), l.Held(), l.Confirmed()) < 0 {
		t.Errorf("free, held, confirmed: %d, %d, %d of %d", l.Free(), l.Held(), l.Confirmed(), p.units)
	}
	checkAnswers(t, h, len(p.notes))
	if got, want := h.Bytes(), p.bytes(); !bytes.Equal(got, want) {
		t.Errorf("Bytes: %x, not %x", got, want)
	}
}

// anyOp answers an operation, which now and then may not be.
func anyOp(random *rand.Rand, books int) api.Op {
	o := opOf(kinds[random.Intn(3)], 1+random.Intn(books), 1+random.Intn(4))
	switch random.Intn(40) {
	case 0:
		o.Kind = random.Intn(9) - 1
	case 1:
		o.Book = noBooks[random.Intn(len(noBooks))]
	case 2:
		o.Units = random.Intn(api.MaxUnits + 3)
	case 3:
		o.Customer = random.Intn(3)
	case 4:
		o.Amount = random.Int63n(3)
	}
	return o
}

// anyCalls makes calls beside plain, many of them more than once, and answers all that was told.
func anyCalls(t *testing.T, seed int64, count int) string {
	t.Helper()
	random := rand.New(rand.NewSource(seed))
	s := api.Stock{Cap: random.Intn(30), Over: random.Intn(5)}
	h := newHost(t, s.Cap, s.Over)
	l, _ := stock.New(s)
	p := &plain{units: s.Cap + s.Over, stock: l}
	books, now, told := 1+random.Intn(60), 0, ""
	for i := range count {
		now += random.Intn(4)
		at := now
		if random.Intn(50) == 0 {
			at = noTicks[random.Intn(len(noTicks))]
		}
		var call, got, want string
		if random.Intn(15) == 0 {
			call, got, want = fmt.Sprintf("Sweep(%d)", at), fmt.Sprint(h.Sweep(at)), fmt.Sprint(p.stock.Sweep(at))
		} else {
			o := anyOp(random, books)
			answer, isNew := h.Ask(o, at)
			wantAnswer, wantNew := p.ask(o, at)
			call, got, want = fmt.Sprintf("Ask(%+v, %d)", o, at), fmt.Sprint(answer, isNew), fmt.Sprint(wantAnswer, wantNew)
		}
		if got != want {
			t.Errorf("%s, not %s", got, want)
		}
		if checkHost(t, h, p); t.Failed() {
			t.Fatalf("seed %d, call %d, %s", seed, i, call)
		}
		told += fmt.Sprintf("%s %x ", got, h.Bytes())
	}
	return told
}

func TestAnyCalls(t *testing.T) {
	for seed := range int64(60) {
		anyCalls(t, seed, 200)
	}
}

func TestSameCallsSameAnswers(t *testing.T) {
	for seed := range int64(5) {
		if anyCalls(t, seed, 200) != anyCalls(t, seed, 200) {
			t.Errorf("seed %d: other answers", seed)
		}
	}
}
