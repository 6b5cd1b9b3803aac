package stock_test

import (
	"bytes"
	"encoding/binary"
	"fmt"
	"math"
	"math/rand"
	"slices"
	"testing"

	"sojourn/api"
	"sojourn/stock"
)

// noTicks are numbers that no clock may show.
var noTicks = []int{math.MinInt, -1 << 41, -1 << 32, -api.HoldFor, -1, api.MaxTick + 1, api.MaxTick + api.HoldFor, 1 << 62, math.MaxInt}

// noBooks are numbers that no booking has.
var noBooks = []int{math.MinInt, -1 << 32, 1 - 1<<32, -1, 0, api.MaxBook + 1, 1<<32 + 1, math.MaxInt}

// gone is a booking that has nothing any more.
var gone = api.Entry{State: api.SGone}

// hold, confirm and release answer what a participant is asked.
func hold(book, units int) api.Op { return api.Op{Kind: api.OpHold, Book: book, Units: units} }
func confirm(book int) api.Op     { return api.Op{Kind: api.OpConfirm, Book: book} }
func release(book int) api.Op     { return api.Op{Kind: api.OpRelease, Book: book} }

// held and confirmed answer bookings that have units.
func held(units, until int) api.Entry {
	return api.Entry{State: api.SHeld, Units: units, Until: until}
}
func confirmed(units int) api.Entry {
	return api.Entry{State: api.SConfirmed, Units: units}
}

// newLedger answers a ledger of so many units.
func newLedger(t testing.TB, units, over int) *stock.Ledger {
	t.Helper()
	l, err := stock.New(api.Stock{Cap: units, Over: over})
	if l == nil || err != api.OK {
		t.Fatalf("New of %d, %d: %v, %d", units, over, l, err)
	}
	return l
}

// done does what is asked, one behind the other, and fails if one is refused.
func done(t testing.TB, l *stock.Ledger, now int, ops ...api.Op) {
	t.Helper()
	for _, o := range ops {
		checkDo(t, l, o, now, api.Done)
	}
}

// checkDo fails if something else is answered.
func checkDo(t testing.TB, l *stock.Ledger, o api.Op, now, want int) {
	t.Helper()
	if got := l.Do(o, now); got != want {
		t.Errorf("Do(%+v, %d): %d, not %d", o, now, got, want)
	}
}

// checkEntry fails if the booking is another one.
func checkEntry(t testing.TB, l *stock.Ledger, book int, want api.Entry) {
	t.Helper()
	if got := l.Entry(book); got != want {
		t.Errorf("Entry(%d): %+v, not %+v", book, got, want)
	}
}

// checkSums fails if other units are free, held, confirmed.
func checkSums(t testing.TB, l *stock.Ledger, free, held, confirmed int) {
	t.Helper()
	if l.Free() != free || l.Held() != held || l.Confirmed() != confirmed {
		t.Errorf("free, held, confirmed: %d, %d, %d, not %d, %d, %d", l.Free(), l.Held(), l.Confirmed(), free, held, confirmed)
	}
}

// checkSweep fails if other bookings are over.
func checkSweep(t testing.TB, l *stock.Ledger, now int, want ...int) {
	t.Helper()
	if got := l.Sweep(now); !slices.Equal(got, want) {
		t.Errorf("Sweep(%d): %v, not %v", now, got, want)
	}
}

// ints answers the bytes of numbers, each as chapter 1's Int.
func ints(l ...int) []byte {
	var out []byte
	for _, v := range l {
		out = binary.AppendVarint(out, int64(v))
	}
	return out
}

// checkBytes fails if Bytes are not those of the numbers.
func checkBytes(t testing.TB, l *stock.Ledger, want ...int) {
	t.Helper()
	if got := l.Bytes(); !bytes.Equal(got, ints(want...)) {
		t.Errorf("Bytes: %x, not %x", got, ints(want...))
	}
}

// Promise 9.1: New.

func TestNewOfRooms(t *testing.T) {
	edges := []int{0, 1, 2, 1000, api.MaxRoom - 1, api.MaxRoom}
	for _, units := range edges {
		for _, over := range edges {
			l := newLedger(t, units, over)
			checkSums(t, l, units+over, 0, 0)
			checkBytes(t, l, units, over)
			for _, book := range append([]int{1, 2, api.MaxBook}, noBooks...) {
				checkEntry(t, l, book, api.Entry{})
			}
		}
	}
}

func TestNewOfNoRooms(t *testing.T) {
	check := func(s api.Stock) {
		if l, err := stock.New(s); l != nil || err != api.ErrArg {
			t.Errorf("New(%+v): %v, %d", s, l, err)
		}
	}
	no := []int{math.MinInt, -1 << 32, -api.MaxRoom, -1, api.MaxRoom + 1, 1 << 32, 1<<32 + 1, math.MaxInt}
	for _, wrong := range no {
		for _, right := range []int{0, 1, api.MaxRoom} {
			check(api.Stock{Cap: wrong, Over: right})
			check(api.Stock{Cap: right, Over: wrong})
		}
		for _, other := range no {
			check(api.Stock{Cap: wrong, Over: other})
		}
	}
}

func TestLedgersAreApart(t *testing.T) {
	one, other := newLedger(t, 5, 0), newLedger(t, 5, 0)
	done(t, one, 0, hold(1, 3))
	checkSums(t, other, 5, 0, 0)
	checkEntry(t, other, 1, api.Entry{})
}

// Promise 9.1: Do, by the table.

// In these tests booking 1 is in one of the states; 10 units are there; it has 3, held till 60.
var states = []api.Entry{{}, {State: api.SHeld, Units: 3, Until: 60}, {State: api.SConfirmed, Units: 3}, {State: api.SGone}}

// inState answers a ledger whose booking 1 is in that state.
func inState(t testing.TB, e api.Entry) *stock.Ledger {
	t.Helper()
	l := newLedger(t, 8, 2)
	switch e.State {
	case api.SHeld:
		done(t, l, 0, hold(1, 3))
	case api.SConfirmed:
		done(t, l, 0, hold(1, 3), confirm(1))
	case api.SGone:
		done(t, l, 0, hold(1, 3), release(1))
	}
	checkEntry(t, l, 1, e)
	return l
}

func TestDoByTheTable(t *testing.T) {
	for _, c := range []struct {
		state int
		op    api.Op
		now   int
		want  int
		entry api.Entry
	}{
		{api.SNone, hold(1, 1), 7, api.Done, held(1, 67)},
		{api.SNone, hold(1, 9), 0, api.Done, held(9, 60)},
		{api.SNone, hold(1, 10), 0, api.Done, held(10, 60)},
		{api.SNone, hold(1, 11), 0, api.Refused, gone},
		{api.SNone, hold(1, api.MaxUnits), 0, api.Refused, gone},
		{api.SHeld, hold(1, 3), 0, api.Done, states[1]},
		{api.SHeld, hold(1, 3), 9, api.Done, states[1]}, // it is held no longer for that
		{api.SHeld, hold(1, 3), 60, api.Done, states[1]},
		{api.SHeld, hold(1, 3), api.MaxTick, api.Done, states[1]},
		{api.SHeld, hold(1, 2), 0, api.Refused, states[1]},
		{api.SHeld, hold(1, 4), 0, api.Refused, states[1]},
		{api.SHeld, hold(1, 11), 90, api.Refused, states[1]},
		{api.SConfirmed, hold(1, 3), 0, api.Done, states[2]},
		{api.SConfirmed, hold(1, 3), 90, api.Done, states[2]},
		{api.SConfirmed, hold(1, 2), 0, api.Refused, states[2]},
		{api.SConfirmed, hold(1, 4), 90, api.Refused, states[2]},
		{api.SGone, hold(1, 3), 0, api.Refused, gone},
		{api.SGone, hold(1, 1), 90, api.Refused, gone},

		{api.SNone, confirm(1), 0, api.Refused, gone},
		{api.SHeld, confirm(1), 0, api.Done, states[2]},
		{api.SHeld, confirm(1), 59, api.Done, states[2]},
		{api.SHeld, confirm(1), 60, api.Refused, gone},
		{api.SHeld, confirm(1), 61, api.Refused, gone},
		{api.SHeld, confirm(1), api.MaxTick, api.Refused, gone},
		{api.SConfirmed, confirm(1), 0, api.Done, states[2]},
		{api.SConfirmed, confirm(1), 60, api.Done, states[2]},
		{api.SConfirmed, confirm(1), api.MaxTick, api.Done, states[2]},
		{api.SGone, confirm(1), 0, api.Refused, gone},

		{api.SNone, release(1), 0, api.Done, gone},
		{api.SHeld, release(1), 0, api.Done, gone},
		{api.SHeld, release(1), 60, api.Done, gone},
		{api.SConfirmed, release(1), 0, api.Done, gone},
		{api.SConfirmed, release(1), api.MaxTick, api.Done, gone},
		{api.SGone, release(1), 0, api.Done, gone},
	} {
		l := inState(t, states[c.state])
		checkDo(t, l, c.op, c.now, c.want)
		checkEntry(t, l, 1, c.entry)
		switch c.entry.State {
		case api.SHeld:
			checkSums(t, l, 10-c.entry.Units, c.entry.Units, 0)
		case api.SConfirmed:
			checkSums(t, l, 10-c.entry.Units, 0, c.entry.Units)
		default:
			checkSums(t, l, 10, 0, 0)
		}
		checkBytes(t, l, 8, 2, 1, c.entry.State, c.entry.Units, c.entry.Until)
	}
}

// checkNotDone fails if what is asked is not refused, or changes something, in any of the states.
func checkNotDone(t *testing.T, o api.Op, now int) {
	t.Helper()
	for _, e := range states {
		l := inState(t, e)
		before := l.Bytes()
		checkDo(t, l, o, now, api.Refused)
		if !bytes.Equal(l.Bytes(), before) {
			t.Errorf("Do(%+v, %d) of %+v: %x became %x", o, now, e, before, l.Bytes())
		}
		checkEntry(t, l, 1, e)
	}
}

func TestDoOfWhatMayNotBe(t *testing.T) {
	var no []api.Op
	for _, book := range noBooks {
		no = append(no, hold(book, 3), confirm(book), release(book))
	}
	for _, units := range []int{math.MinInt, -3, -1, 0, api.MaxUnits + 1, 1<<32 + 3, math.MaxInt} {
		no = append(no, hold(1, units))
	}
	for _, units := range []int{-3, -1, 1, 3} {
		no = append(no, api.Op{Kind: api.OpConfirm, Book: 1, Units: units}, api.Op{Kind: api.OpRelease, Book: 1, Units: units})
	}
	for _, o := range []api.Op{hold(1, 3), confirm(1), release(1)} {
		withCustomer, withAmount := o, o
		withCustomer.Customer, withAmount.Amount = 1, 1
		no = append(no, withCustomer, withAmount)
	}
	for _, kind := range []int{math.MinInt, -1, 0, 7, 1<<32 + 1, math.MaxInt} {
		no = append(no, api.Op{Kind: kind, Book: 1}, api.Op{Kind: kind, Book: 1, Units: 3})
	}
	for _, o := range append(no, api.Op{}) {
		checkNotDone(t, o, 5)
	}
}

func TestDoOfThePursesKinds(t *testing.T) {
	for _, o := range []api.Op{
		{Kind: api.OpAuth, Book: 1}, {Kind: api.OpAuth, Book: 1, Customer: 1, Amount: 3},
		{Kind: api.OpCapture, Book: 1}, {Kind: api.OpVoid, Book: 1},
	} {
		checkNotDone(t, o, 5)
	}
}

func TestDoAtNoTick(t *testing.T) {
	for _, now := range noTicks {
		for _, o := range []api.Op{hold(1, 3), hold(1, 4), hold(1, 11), confirm(1), release(1)} {
			checkNotDone(t, o, now)
		}
	}
}

func TestDoAtAllTicks(t *testing.T) {
	for _, now := range []int{0, 1, 1 << 31, 1 << 32, api.MaxTick - api.HoldFor, api.MaxTick - 1, api.MaxTick} {
		l := newLedger(t, 5, 0)
		done(t, l, now, hold(1, 2), hold(2, 2))
		checkEntry(t, l, 1, held(2, now+60))
		checkSweep(t, l, now)
		done(t, l, min(now+59, api.MaxTick), confirm(1))
		done(t, l, now, release(2))
		checkSums(t, l, 3, 0, 2)
		checkBytes(t, l, 5, 0, 1, api.SConfirmed, 2, 0, 2, api.SGone, 0, 0)
	}
}

func TestDoOfAllBooks(t *testing.T) {
	l := newLedger(t, 200*api.MaxUnits, 0)
	for book := 1; book <= api.MaxBook; book++ {
		done(t, l, book, hold(book, api.MaxUnits))
		checkEntry(t, l, book, held(api.MaxUnits, book+60))
		checkSums(t, l, (200-book)*api.MaxUnits, book*api.MaxUnits, 0)
	}
	for book := 1; book <= api.MaxBook; book++ {
		done(t, l, book, confirm(book))
		checkSums(t, l, 0, (200-book)*api.MaxUnits, book*api.MaxUnits)
	}
	for book := 1; book <= api.MaxBook; book++ {
		done(t, l, book, release(book))
		checkSums(t, l, book*api.MaxUnits, 0, (200-book)*api.MaxUnits)
	}
}

// The ten examples of DOC.md: those of an inventory.

func TestExamples(t *testing.T) {
	l := newLedger(t, 2, 1)
	checkDo(t, l, hold(1, 2), 0, api.Done)
	checkDo(t, l, hold(2, 2), 0, api.Refused)
	checkDo(t, l, hold(3, 1), 0, api.Done)
	checkSums(t, l, 0, 3, 0)
	checkEntry(t, l, 2, gone)

	l = newLedger(t, 2, 0)
	checkDo(t, l, hold(1, 2), 0, api.Done)
	checkDo(t, l, hold(2, 1), 0, api.Refused)

	for now, want := range map[int]int{5: api.Done, 63: api.Done, 64: api.Done, 65: api.Refused, 66: api.Refused} {
		l = newLedger(t, 2, 0)
		done(t, l, 5, hold(1, 2))
		checkDo(t, l, confirm(1), now, want)
	}

	l = newLedger(t, 2, 0)
	checkDo(t, l, release(1), 0, api.Done)
	checkDo(t, l, hold(1, 1), 0, api.Refused)
	checkSums(t, l, 2, 0, 0)
}

func TestUnitsAreFreeAgain(t *testing.T) {
	for name, end := range map[string]func(*stock.Ledger){
		"release of held":      func(l *stock.Ledger) { done(t, l, 9, release(1)) },
		"release of confirmed": func(l *stock.Ledger) { done(t, l, 9, confirm(1), release(1)) },
		"confirm too late":     func(l *stock.Ledger) { checkDo(t, l, confirm(1), 60, api.Refused) },
		"sweep":                func(l *stock.Ledger) { checkSweep(t, l, 60, 1) },
	} {
		l := newLedger(t, 1, 2)
		done(t, l, 0, hold(1, 3))
		end(l)
		if checkEntry(t, l, 1, gone); t.Failed() {
			t.Fatal(name)
		}
		checkSums(t, l, 3, 0, 0)
		done(t, l, 61, hold(2, 3))
		checkSums(t, l, 0, 3, 0)
	}
}

// TestHoldDoesNotSweep: units whose time is over are held until somebody says so.
func TestHoldDoesNotSweep(t *testing.T) {
	l := newLedger(t, 3, 0)
	done(t, l, 0, hold(1, 3))
	checkDo(t, l, hold(2, 1), 60, api.Refused)
	checkEntry(t, l, 1, held(3, 60))
	checkSums(t, l, 0, 3, 0)
}

// TestRefusedIsGone: a hold that was refused is so for good, though there be room later.
func TestRefusedIsGone(t *testing.T) {
	l := newLedger(t, 3, 0)
	done(t, l, 0, hold(1, 2))
	checkDo(t, l, hold(2, 2), 0, api.Refused)
	done(t, l, 0, release(1))
	checkDo(t, l, hold(2, 2), 0, api.Refused)
	checkDo(t, l, hold(2, 1), 0, api.Refused)
	checkDo(t, l, confirm(2), 0, api.Refused)
	done(t, l, 0, release(2))
	checkEntry(t, l, 2, gone)
	checkSums(t, l, 3, 0, 0)
}

// TestTimeMayBeAnEarlierOne: the ledger has no clock; it goes by the time that it is told.
func TestTimeMayBeAnEarlierOne(t *testing.T) {
	l := newLedger(t, 9, 0)
	done(t, l, 100, hold(1, 2))
	checkSweep(t, l, 159)
	done(t, l, 5, hold(2, 2))
	checkEntry(t, l, 2, held(2, 65))
	done(t, l, 64, confirm(2), confirm(1))
}

// Promise 9.2: Sweep.

func TestSweep(t *testing.T) {
	l := newLedger(t, 100, 0)
	for i, book := range []int{200, 7, 30, 1, 100, 55, 2} { // until 60, 61, .. 66
		done(t, l, i, hold(book, i+1))
	}
	done(t, l, 9, confirm(30), release(100))
	checkSweep(t, l, 0)
	checkSweep(t, l, 59)
	checkSums(t, l, 100-3-20, 20, 3)
	checkSweep(t, l, 60, 200)
	checkSweep(t, l, 60)
	checkSums(t, l, 100-3-19, 19, 3)
	checkEntry(t, l, 200, gone)
	checkEntry(t, l, 7, held(2, 61))
	checkSweep(t, l, 65, 1, 7, 55)
	checkEntry(t, l, 2, held(7, 66))
	checkSums(t, l, 100-3-7, 7, 3)
	checkSweep(t, l, api.MaxTick, 2)
	checkSums(t, l, 97, 0, 3)
	checkSweep(t, l, api.MaxTick)
	checkBytes(t, l, 100, 0, 1, 3, 0, 0, 2, 3, 0, 0, 7, 3, 0, 0, 30, 2, 3, 0, 55, 3, 0, 0, 100, 3, 0, 0, 200, 3, 0, 0)
}

func TestSweepOfAll(t *testing.T) {
	l := newLedger(t, 1000, 0)
	var all []int
	for book := api.MaxBook; book >= 1; book-- {
		done(t, l, book%7, hold(book, 1))
		all = append(all, book)
	}
	slices.Reverse(all)
	checkSweep(t, l, 66, all...)
	checkSums(t, l, 1000, 0, 0)
}

func TestSweepAtNoTick(t *testing.T) {
	l := newLedger(t, 9, 0)
	done(t, l, 0, hold(1, 2))
	for _, now := range noTicks {
		checkSweep(t, l, now)
		checkEntry(t, l, 1, held(2, 60))
	}
	checkSweep(t, l, api.MaxTick, 1)
}

// Promise 9.2: Copy; and rule 2: what is answered is the caller's.

func TestCopyIsItsOwn(t *testing.T) {
	for _, fill := range []bool{false, true} {
		l := newLedger(t, 9, 1)
		if fill {
			done(t, l, 0, hold(1, 2), hold(2, 3), confirm(2))
		}
		before := l.Bytes()
		other := l.Copy()
		if other == l || !bytes.Equal(other.Bytes(), before) {
			t.Fatalf("Copy: %x, not %x", other.Bytes(), before)
		}
		free := l.Free()
		done(t, other, 0, hold(3, 1), release(1))
		if !bytes.Equal(l.Bytes(), before) || l.Free() != free || l.Entry(3) != (api.Entry{}) {
			t.Errorf("what was done to the copy became of %x %x", before, l.Bytes())
		}
		before = other.Bytes()
		done(t, l, 0, release(2), release(3), hold(4, 1))
		l.Sweep(60)
		if !bytes.Equal(other.Bytes(), before) {
			t.Errorf("what was done to the ledger became of its copy %x %x", before, other.Bytes())
		}
	}
}

func TestAnswersAreTheCallers(t *testing.T) {
	l := newLedger(t, 9, 0)
	done(t, l, 0, hold(1, 2), hold(2, 3))
	before := l.Bytes()
	b := l.Bytes()
	for i := range b {
		b[i] = 0xff
	}
	over := l.Copy().Sweep(60)
	over[0], over[1] = 7, 7
	if !bytes.Equal(l.Bytes(), before) {
		t.Errorf("%x became %x", before, l.Bytes())
	}
	checkSweep(t, l, 60, 1, 2)
}

// Promise 9.3: Bytes.

func TestBytesByHand(t *testing.T) {
	l := newLedger(t, 64, 1)
	done(t, l, 4, hold(200, 64), hold(3, 1), confirm(3))
	checkDo(t, l, hold(70, 1), 4, api.Refused)
	want := []byte{
		0x80, 0x01, 0x02,
		0x06, 0x04, 0x02, 0x00,
		0x8c, 0x01, 0x06, 0x00, 0x00,
		0x90, 0x03, 0x02, 0x80, 0x01, 0x80, 0x01,
	}
	if !bytes.Equal(l.Bytes(), want) {
		t.Errorf("Bytes: %x, not %x", l.Bytes(), want)
	}
}

func TestBytesOfGreatNumbers(t *testing.T) {
	for _, now := range []int{0, 1<<13 - 61, 1<<13 - 60, 1<<20 - 61, 1<<20 - 60, 1<<34 - 61, 1<<34 - 60, api.MaxTick} {
		l := newLedger(t, api.MaxRoom, api.MaxRoom)
		done(t, l, now, hold(api.MaxBook, api.MaxUnits))
		checkBytes(t, l, api.MaxRoom, api.MaxRoom, api.MaxBook, api.SHeld, api.MaxUnits, now+60)
	}
}

func TestBytesOfNoBookings(t *testing.T) {
	l := newLedger(t, 5, 7)
	checkBytes(t, l, 5, 7)
	l.Do(hold(1, 0), 0)
	l.Do(hold(1, 1), -1)
	l.Sweep(api.MaxTick)
	checkBytes(t, l, 5, 7)
}

// Promise 9.3: of nil; and rule 1: no call panics.

func TestNil(t *testing.T) {
	var none *stock.Ledger
	for _, now := range append([]int{0, 1, api.MaxTick}, noTicks...) {
		for _, o := range []api.Op{hold(1, 1), confirm(1), release(1), {}} {
			checkDo(t, none, o, now, api.Refused)
		}
		if over := none.Sweep(now); len(over) != 0 {
			t.Errorf("Sweep of nil: %v", over)
		}
	}
	for _, book := range append([]int{1, api.MaxBook}, noBooks...) {
		checkEntry(t, none, book, api.Entry{})
	}
	checkSums(t, none, 0, 0, 0)
	if b, c := none.Bytes(), none.Copy(); len(b) != 0 || c != nil {
		t.Errorf("of nil: Bytes %x, Copy %v", b, c)
	}
}

func TestZeroLedger(t *testing.T) {
	for _, o := range []api.Op{hold(1, 1), confirm(1)} {
		var l stock.Ledger
		checkSweep(t, &l, api.MaxTick)
		checkBytes(t, l.Copy(), 0, 0)
		checkDo(t, &l, o, 0, api.Refused)
		checkEntry(t, &l, 1, gone)
		checkSums(t, &l, 0, 0, 0)
		checkBytes(t, &l, 0, 0, 1, api.SGone, 0, 0)
	}
	var l stock.Ledger
	done(t, &l, 0, release(1))
	checkBytes(t, &l, 0, 0, 1, api.SGone, 0, 0)
}

// Promise 9.4, T1, T2: any calls, beside a plain ledger.

// plain is an inventory by the chapter's words: its units are counted one by one.
type plain struct {
	units, over int
	free        int
	books       [api.MaxBook + 1]api.Entry
}

// end lets the booking be gone, and its units be free.
func (p *plain) end(book int) {
	p.free += p.books[book].Units
	p.books[book] = gone
}

// hold, confirm and release are the rows of the chapter's table.
func (p *plain) hold(book, units, now int) int {
	switch e := p.books[book]; e.State {
	case api.SNone:
		if p.free < units {
			p.end(book)
			return api.Refused
		}
		p.free -= units
		p.books[book] = held(units, now+60)
		return api.Done
	case api.SHeld, api.SConfirmed:
		if e.Units == units {
			return api.Done
		}
	}
	return api.Refused
}

func (p *plain) confirm(book, now int) int {
	switch e := p.books[book]; e.State {
	case api.SNone:
		p.end(book)
	case api.SHeld:
		if e.Until > now {
			p.books[book] = confirmed(e.Units)
			return api.Done
		}
		p.end(book)
	case api.SConfirmed:
		return api.Done
	}
	return api.Refused
}

func (p *plain) release(book int) int {
	p.end(book)
	return api.Done
}

// do does what may be asked.
func (p *plain) do(o api.Op, now int) int {
	if now < 0 || now > api.MaxTick || o.Book < 1 || o.Book > api.MaxBook || o.Customer != 0 || o.Amount != 0 {
		return api.Refused
	}
	switch {
	case o.Kind == api.OpHold && o.Units >= 1 && o.Units <= api.MaxUnits:
		return p.hold(o.Book, o.Units, now)
	case o.Kind == api.OpConfirm && o.Units == 0:
		return p.confirm(o.Book, now)
	case o.Kind == api.OpRelease && o.Units == 0:
		return p.release(o.Book)
	}
	return api.Refused
}

func (p *plain) sweep(now int) []int {
	var over []int
	for book, e := range p.books {
		if now >= 0 && now <= api.MaxTick && e.State == api.SHeld && e.Until <= now {
			p.end(book)
			over = append(over, book)
		}
	}
	return over
}

// numbers answers those that Bytes has.
func (p *plain) numbers() []int {
	l := []int{p.units, p.over}
	for book, e := range p.books {
		if e.State != api.SNone {
			l = append(l, book, e.State, e.Units, e.Until)
		}
	}
	return l
}

// sum answers the units of that state.
func (p *plain) sum(state int) int {
	sum := 0
	for _, e := range p.books {
		if e.State == state {
			sum += e.Units
		}
	}
	return sum
}

// anyOp answers an operation, which now and then may not be.
func anyOp(random *rand.Rand, books int) api.Op {
	o := api.Op{Kind: 1 + random.Intn(3), Book: 1 + random.Intn(books)}
	if o.Kind == api.OpHold {
		o.Units = 1 + random.Intn(4)
	}
	switch random.Intn(40) {
	case 0:
		o.Kind = random.Intn(9) - 1
	case 1:
		o.Book = noBooks[random.Intn(len(noBooks))]
	case 2:
		o.Units = random.Intn(api.MaxUnits + 3)
	case 3:
		o.Customer = random.Intn(3)
	case 4:
		o.Amount = random.Int63n(3)
	}
	return o
}

// checkStory fails if a booking went where none may go: what is gone stays so, what is confirmed is confirmed or gone, and nothing is forgotten.
func checkStory(t *testing.T, book int, before, behind api.Entry) {
	t.Helper()
	switch {
	case before == behind:
	case before.State == api.SNone && (behind.State == api.SHeld || behind == gone):
	case before.State == api.SHeld && (behind == confirmed(before.Units) || behind == gone):
	case before.State == api.SConfirmed && behind == gone:
	default:
		t.Errorf("booking %d: %+v became %+v", book, before, behind)
	}
}

// checkLedger fails if the ledger is not as the plain one is, or its sums are not all that there is.
func checkLedger(t *testing.T, l *stock.Ledger, p *plain) {
	t.Helper()
	checkSums(t, l, p.free, p.sum(api.SHeld), p.sum(api.SConfirmed))
	if l.Free()+l.Held()+l.Confirmed() != p.units+p.over || min(l.Free(), l.Held(), l.Confirmed()) < 0 {
		t.Errorf("free, held, confirmed: %d, %d, %d of %d, %d", l.Free(), l.Held(), l.Confirmed(), p.units, p.over)
	}
	for book, e := range p.books {
		checkEntry(t, l, book, e)
	}
	checkBytes(t, l, p.numbers()...)
}

// anyCalls makes calls beside plain, and answers all that was told.
func anyCalls(t *testing.T, seed int64, count int) string {
	t.Helper()
	random := rand.New(rand.NewSource(seed))
	p := &plain{units: random.Intn(12), over: random.Intn(5)}
	p.free = p.units + p.over
	l := newLedger(t, p.units, p.over)
	books, now, told := 1+random.Intn(30), 0, ""
	for i := range count {
		now += random.Intn(4)
		at := now
		if random.Intn(50) == 0 {
			at = noTicks[random.Intn(len(noTicks))]
		}
		before := *p
		var call, got, want string
		if random.Intn(15) == 0 {
			call, got, want = fmt.Sprintf("Sweep(%d)", at), fmt.Sprint(l.Sweep(at)), fmt.Sprint(p.sweep(at))
		} else {
			o := anyOp(random, books)
			call, got, want = fmt.Sprintf("Do(%+v, %d)", o, at), fmt.Sprint(l.Do(o, at)), fmt.Sprint(p.do(o, at))
		}
		if got != want {
			t.Errorf("%s: not %s", got, want)
		}
		for book := range p.books {
			checkStory(t, book, before.books[book], l.Entry(book))
		}
		if checkLedger(t, l, p); t.Failed() {
			t.Fatalf("seed %d, call %d, %s", seed, i, call)
		}
		told += fmt.Sprintf("%s %x ", got, l.Bytes())
		if random.Intn(20) == 0 {
			l = l.Copy()
		}
	}
	return told
}

func TestAnyCalls(t *testing.T) {
	for seed := range int64(60) {
		anyCalls(t, seed, 200)
	}
}

func TestSameCallsSameAnswers(t *testing.T) {
	for seed := range int64(5) {
		if anyCalls(t, seed, 200) != anyCalls(t, seed, 200) {
			t.Errorf("seed %d: other answers", seed)
		}
	}
}
