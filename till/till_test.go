package till_test

import (
	"bytes"
	"encoding/binary"
	"fmt"
	"math"
	"math/rand"
	"slices"
	"testing"

	"sojourn/api"
	"sojourn/purse"
	"sojourn/till"
)

// Accounts behind the customers': as chapter 10 numbers them.
const (
	reserved = 4
	takings  = 5
)

// kinds are what a purse may be asked.
var kinds = []int{api.OpAuth, api.OpCapture, api.OpVoid}

// noBooks are numbers that no booking has.
var noBooks = []int{math.MinInt, -1 << 32, 1 - 1<<32, -1, 0, api.MaxBook + 1, 1<<32 + 1, math.MaxInt}

// noCustomers are numbers that no customer has.
var noCustomers = []int{math.MinInt, -1 << 32, 2 - 1<<32, -1, api.Customers, api.Customers + 1, 1<<32 + 2, math.MaxInt}

// noAmounts are amounts that nobody may be asked for.
var noAmounts = []int64{math.MinInt64, -1 << 41, -3, -1, api.MaxPrice + 1, 1 << 41, math.MaxInt64}

// gone is a booking that has nothing any more.
var gone = api.Entry{State: api.SGone}

// funds are what customers have at first.
type funds = [api.Customers]int64

// auth, capture and void answer what a purse is asked.
func auth(book, customer int, amount int64) api.Op {
	return api.Op{Kind: api.OpAuth, Book: book, Customer: customer, Amount: amount}
}
func capture(book int) api.Op { return api.Op{Kind: api.OpCapture, Book: book} }
func void(book int) api.Op    { return api.Op{Kind: api.OpVoid, Book: book} }

// opOf answers an operation of that kind; an auth is one of so much of customer 2.
func opOf(kind, book int, amount int64) api.Op {
	if kind == api.OpAuth {
		return auth(book, 2, amount)
	}
	return api.Op{Kind: kind, Book: book}
}

// authed and captured answer bookings that have money.
func authed(customer int, amount int64) api.Entry {
	return api.Entry{State: api.SAuth, Customer: customer, Amount: amount}
}
func captured(customer int, amount int64) api.Entry {
	return api.Entry{State: api.SCaptured, Customer: customer, Amount: amount}
}

// newTill answers a till whose customers have so much.
func newTill(t testing.TB, f funds) *till.Till {
	t.Helper()
	l, err := till.New(f)
	if l == nil || err != api.OK {
		t.Fatalf("New(%d): %v, %d", f, l, err)
	}
	return l
}

// checkAsk fails if something else is answered, or it is not new, or new, as it should be.
func checkAsk(t testing.TB, l *till.Till, o api.Op, want int, wantNew bool) {
	t.Helper()
	if got, isNew := l.Ask(o); got != want || isNew != wantNew {
		t.Errorf("Ask(%+v): %d, %v, not %d, %v", o, got, isNew, want, wantNew)
	}
}

// done asks what was never asked, one behind the other, and fails if one is not done.
func done(t testing.TB, l *till.Till, ops ...api.Op) {
	t.Helper()
	for _, o := range ops {
		checkAsk(t, l, o, api.Done, true)
	}
}

// checkEntry fails if the booking is another one.
func checkEntry(t testing.TB, l *till.Till, book int, want api.Entry) {
	t.Helper()
	if got := l.Purse().Entry(book); got != want {
		t.Errorf("Entry(%d): %+v, not %+v", book, got, want)
	}
}

// moneyOf answers what accounts have.
func moneyOf(l *till.Till) [6]int64 {
	p := l.Purse()
	return [6]int64{p.Balance(0), p.Balance(1), p.Balance(2), p.Balance(3), p.Reserved(), p.Takings()}
}

// checkMoney fails if accounts have something else.
func checkMoney(t testing.TB, l *till.Till, want ...int64) {
	t.Helper()
	if got := moneyOf(l); !slices.Equal(got[:], want) {
		t.Errorf("accounts have %d, not %d", got, want)
	}
}

// checkLines fails if other moves were made.
func checkLines(t testing.TB, l *till.Till, want ...purse.Line) {
	t.Helper()
	if got := l.Purse().Lines(); !slices.Equal(got, want) {
		t.Errorf("Lines: %+v, not %+v", got, want)
	}
}

// checkAnswers fails if there are not just so many.
func checkAnswers(t testing.TB, l *till.Till, want int) {
	t.Helper()
	if got := l.Answers(); got != want {
		t.Errorf("Answers: %d, not %d", got, want)
	}
}

// ints answers the bytes of numbers, each as chapter 1's Int.
func ints(l ...int64) []byte {
	var out []byte
	for _, v := range l {
		out = binary.AppendVarint(out, v)
	}
	return out
}

// checkBytes fails if Bytes are not those of the numbers.
func checkBytes(t testing.TB, l *till.Till, want ...int64) {
	t.Helper()
	if got := l.Bytes(); !bytes.Equal(got, ints(want...)) {
		t.Errorf("Bytes: %x, not %x", got, ints(want...))
	}
}

// Promise 13.1: New.

func TestNewOfFunds(t *testing.T) {
	for _, f := range []funds{
		{}, {1, 2, 3, 4}, {api.MaxPrice, 0, 0, 0}, {0, 0, 0, api.MaxPrice}, {0, api.MaxPrice - 1, 5, 0},
		{api.MaxPrice, api.MaxPrice, api.MaxPrice, api.MaxPrice},
	} {
		l := newTill(t, f)
		checkMoney(t, l, f[0], f[1], f[2], f[3], 0, 0)
		checkBytes(t, l, f[0], f[1], f[2], f[3], 0, 0, 0)
		checkAnswers(t, l, 0)
		checkLines(t, l)
		for _, book := range append([]int{1, 2, api.MaxBook}, noBooks...) {
			checkEntry(t, l, book, api.Entry{})
		}
	}
}

func TestNewOfNoFunds(t *testing.T) {
	for _, wrong := range noAmounts {
		for customer := range api.Customers {
			for _, right := range []int64{0, 1, api.MaxPrice} {
				f := funds{right, right, right, right}
				f[customer] = wrong
				if l, err := till.New(f); l != nil || err != api.ErrArg {
					t.Errorf("New(%d): %v, %d", f, l, err)
				}
			}
		}
	}
}

func TestTillsAreApart(t *testing.T) {
	one, other := newTill(t, funds{5}), newTill(t, funds{5})
	done(t, one, auth(1, 0, 3))
	checkMoney(t, other, 5, 0, 0, 0, 0, 0)
	checkAnswers(t, other, 0)
	checkAsk(t, other, auth(1, 0, 4), api.Done, true)
	checkAsk(t, one, auth(1, 0, 3), api.Done, false)
}

// Promise 13.1: Ask, what is new. In these tests booking 1, of 3 of customer 2, is in one of the states.

var states = []int{api.SNone, api.SAuth, api.SCaptured, api.SGone}

// inState answers a till whose booking 1 is in that state; customers have 20, 30, 10, 0, and no others' money is anywhere else.
func inState(t testing.TB, state int) *till.Till {
	t.Helper()
	l := newTill(t, funds{20, 30, 10, 0})
	switch state {
	case api.SAuth:
		done(t, l, auth(1, 2, 3))
	case api.SCaptured:
		done(t, l, auth(1, 2, 3), capture(1))
	case api.SGone:
		done(t, l, void(1))
	}
	if got := l.Purse().Entry(1).State; got != state {
		t.Fatalf("state %d, not %d", got, state)
	}
	return l
}

// moneyWith answers what accounts have where booking 1 is so.
func moneyWith(e api.Entry) []int64 {
	money := []int64{20, 30, 10, 0, 0, 0}
	money[e.Customer] -= e.Amount
	switch e.State {
	case api.SAuth:
		money[reserved] = e.Amount
	case api.SCaptured:
		money[takings] = e.Amount
	}
	return money
}

func TestAskOfWhatIsNew(t *testing.T) {
	for _, c := range []struct {
		state int
		op    api.Op
		want  int
		entry api.Entry
	}{
		{api.SNone, auth(1, 2, 3), api.Done, authed(2, 3)},
		{api.SNone, auth(1, 0, 20), api.Done, authed(0, 20)},
		{api.SNone, auth(1, 0, 21), api.Refused, gone},
		{api.SNone, auth(1, 1, 30), api.Done, authed(1, 30)},
		{api.SNone, auth(1, 3, 0), api.Done, authed(3, 0)},
		{api.SNone, auth(1, 3, 1), api.Refused, gone},
		{api.SNone, auth(1, 2, api.MaxPrice), api.Refused, gone},
		{api.SNone, capture(1), api.Refused, gone},
		{api.SNone, void(1), api.Done, gone},
		{api.SAuth, capture(1), api.Done, captured(2, 3)},
		{api.SAuth, void(1), api.Done, gone},
		{api.SCaptured, void(1), api.Done, gone},
		{api.SGone, auth(1, 2, 3), api.Refused, gone},
		{api.SGone, auth(1, 2, 0), api.Refused, gone},
		{api.SGone, capture(1), api.Refused, gone},
	} {
		l := inState(t, c.state)
		answers := l.Answers()
		checkAsk(t, l, c.op, c.want, true)
		lines := l.Purse().Lines()
		for range 3 {
			checkEntry(t, l, 1, c.entry)
			checkMoney(t, l, moneyWith(c.entry)...)
			checkLines(t, l, lines...)
			checkAnswers(t, l, answers+1)
			checkAsk(t, l, c.op, c.want, false)
		}
	}
}

// checkNotAsked fails if what is asked is not refused, or is noted, or changes something, in any of the states.
func checkNotAsked(t *testing.T, o api.Op) {
	t.Helper()
	for _, state := range states {
		l := inState(t, state)
		before, lines, answers := l.Bytes(), l.Purse().Lines(), l.Answers()
		checkAsk(t, l, o, api.Refused, false)
		checkAsk(t, l, o, api.Refused, false)
		checkAnswers(t, l, answers)
		checkLines(t, l, lines...)
		if !bytes.Equal(l.Bytes(), before) {
			t.Errorf("Ask(%+v) of state %d: %x became %x", o, state, before, l.Bytes())
		}
	}
}

func TestAskOfWhatMayNotBe(t *testing.T) {
	no := []api.Op{{}}
	for _, book := range noBooks {
		no = append(no, auth(book, 2, 3), capture(book), void(book))
	}
	for _, customer := range noCustomers {
		no = append(no, auth(1, customer, 3), auth(1, customer, 0))
	}
	for _, amount := range noAmounts {
		no = append(no, auth(1, 2, amount))
	}
	for _, o := range []api.Op{auth(1, 2, 3), capture(1), void(1)} {
		for _, units := range []int{-3, -1, 1, 3} {
			o.Units = units
			no = append(no, o)
		}
	}
	for _, o := range []api.Op{capture(1), void(1)} {
		withCustomer, withAmount := o, o
		withCustomer.Customer, withAmount.Amount = 2, 3
		no = append(no, withCustomer, withAmount)
	}
	for _, kind := range []int{math.MinInt, -1, 0, 7, 1<<32 + api.OpAuth, math.MaxInt} {
		no = append(no, api.Op{Kind: kind, Book: 1}, api.Op{Kind: kind, Book: 1, Customer: 2, Amount: 3})
	}
	for _, o := range no {
		checkNotAsked(t, o)
	}
}

func TestAskOfInventoriesKinds(t *testing.T) {
	for _, o := range []api.Op{
		{Kind: api.OpHold, Book: 1, Units: 3}, {Kind: api.OpConfirm, Book: 1}, {Kind: api.OpRelease, Book: 1},
	} {
		checkNotAsked(t, o)
	}
}

// TestWhatMayNotBeTakesNoPlace: what was refused for that it may not be asked is new when it is asked rightly.
func TestWhatMayNotBeTakesNoPlace(t *testing.T) {
	l := newTill(t, funds{0, 0, 9})
	for _, kind := range kinds {
		wrongUnits, wrongCustomer, wrongAmount := opOf(kind, 1, 2), opOf(kind, 1, 2), opOf(kind, 1, 2)
		wrongUnits.Units, wrongCustomer.Customer, wrongAmount.Amount = 1, api.Customers, -1
		for _, o := range []api.Op{wrongUnits, wrongCustomer, wrongAmount} {
			checkAsk(t, l, o, api.Refused, false)
		}
		done(t, l, opOf(kind, 1, 2))
	}
	checkBytes(t, l, 0, 0, 9, 0, 0, 0, 1, api.SGone, 0, 0, 3, 1, 4, 1, 1, 5, 1, 1, 6, 1)
}

// TestWhatMayNotBeIsNotFound: though its Book and Kind have an answer, what may not be asked isn't told that.
func TestWhatMayNotBeIsNotFound(t *testing.T) {
	l := newTill(t, funds{0, 0, 9})
	done(t, l, auth(1, 2, 2), capture(1), void(1))
	for _, kind := range kinds {
		checkAsk(t, l, api.Op{Kind: kind, Book: 1, Units: 1}, api.Refused, false)
		checkAsk(t, l, api.Op{Kind: kind, Book: 1, Customer: -1}, api.Refused, false)
		checkAsk(t, l, api.Op{Kind: kind, Book: 1, Amount: -1}, api.Refused, false)
		checkAsk(t, l, opOf(kind, 1, 2), api.Done, false)
	}
}

func TestAskOfAllBooks(t *testing.T) {
	const most = api.MaxPrice
	l := newTill(t, funds{most, most, most, most})
	for i, kind := range kinds {
		for book := 1; book <= api.MaxBook; book++ {
			o := opOf(kind, book, int64(book)<<25)
			if kind == api.OpAuth {
				o.Customer = book % 4
			}
			done(t, l, o)
			checkAnswers(t, l, i*api.MaxBook+book)
		}
		before := l.Bytes()
		for book := 1; book <= api.MaxBook; book++ {
			checkAsk(t, l, opOf(kind, book, 1), api.Done, false)
		}
		if !bytes.Equal(l.Bytes(), before) {
			t.Errorf("kind %d, asked again: %x became %x", kind, before, l.Bytes())
		}
	}
	checkMoney(t, l, most, most, most, most, 0, 0)
}

func TestGreatestAmounts(t *testing.T) {
	const most = api.MaxPrice
	l := newTill(t, funds{most, most, most, most})
	for customer := range api.Customers {
		done(t, l, auth(customer+1, customer, most), capture(customer+1))
		checkAsk(t, l, auth(100+customer, customer, 1), api.Refused, true)
	}
	checkMoney(t, l, 0, 0, 0, 0, 0, 4*most)
	done(t, l, void(4), void(3), void(2), void(1))
	checkMoney(t, l, most, most, most, most, 0, 0)
}

// The examples of the chapter, and of DOC.md: those of a purse.

func TestExamples(t *testing.T) {
	l := newTill(t, funds{9})
	checkAsk(t, l, auth(1, 0, 2), api.Done, true)
	checkAsk(t, l, auth(1, 0, 2), api.Done, false)

	for customer := range api.Customers {
		var f funds
		f[customer] = 5
		l := newTill(t, f)
		checkAsk(t, l, auth(1, customer, 6), api.Refused, true)
		checkEntry(t, l, 1, gone)
		checkMoney(t, l, f[0], f[1], f[2], f[3], 0, 0)
		checkAsk(t, l, auth(2, customer, 5), api.Done, true)
	}
}

// Promise 13.2: an operation that comes twice is done once.

// TestTwiceIsToldTheSame: by Book and Kind alone, though the purse would answer otherwise by now.
func TestTwiceIsToldTheSame(t *testing.T) {
	l := newTill(t, funds{5, 9})
	done(t, l, auth(1, 0, 3))
	checkAsk(t, l, auth(2, 0, 3), api.Refused, true)
	checkAsk(t, l, auth(1, 0, 4), api.Done, false) // another auth than the one that was done
	checkAsk(t, l, auth(1, 1, 3), api.Done, false)
	checkAsk(t, l, auth(1, 3, api.MaxPrice), api.Done, false) // more than there is
	checkEntry(t, l, 1, authed(0, 3))
	done(t, l, void(1))
	checkAsk(t, l, auth(1, 0, 3), api.Done, false)    // it is gone
	checkAsk(t, l, auth(2, 0, 1), api.Refused, false) // there is money
	checkEntry(t, l, 1, gone)
	checkAsk(t, l, capture(1), api.Refused, true)
	checkAsk(t, l, capture(1), api.Refused, false)
	checkMoney(t, l, 5, 9, 0, 0, 0, 0)
	checkAnswers(t, l, 4)
}

// TestTwiceMovesOnce: each move is made once, however often it is asked.
func TestTwiceMovesOnce(t *testing.T) {
	l := newTill(t, funds{9})
	var lines []purse.Line
	for i, o := range []api.Op{auth(1, 0, 4), capture(1), void(1)} {
		done(t, l, o)
		lines = append(lines, [...]purse.Line{
			{Book: 1, From: 0, To: reserved, Amount: 4},
			{Book: 1, From: reserved, To: takings, Amount: 4},
			{Book: 1, From: takings, To: 0, Amount: 4},
		}[i])
		for range 3 {
			checkAsk(t, l, o, api.Done, false)
			checkLines(t, l, lines...)
			checkAnswers(t, l, i+1)
		}
	}
}

// TestCaptureBehindItsRefusal: a capture that came too early is refused, and so it stays; the booking is gone.
func TestCaptureBehindItsRefusal(t *testing.T) {
	l := newTill(t, funds{9})
	checkAsk(t, l, capture(1), api.Refused, true)
	checkAsk(t, l, auth(1, 0, 4), api.Refused, true)
	checkAsk(t, l, capture(1), api.Refused, false)
	done(t, l, void(1))
	checkMoney(t, l, 9, 0, 0, 0, 0, 0)
	checkLines(t, l)
}

// TestVoidAhead: what is asked behind a void finds that the booking is gone.
func TestVoidAhead(t *testing.T) {
	l := newTill(t, funds{9})
	done(t, l, void(1))
	checkAsk(t, l, auth(1, 0, 4), api.Refused, true)
	checkAsk(t, l, auth(1, 0, 4), api.Refused, false)
	checkAsk(t, l, capture(1), api.Refused, true)
	checkAsk(t, l, void(1), api.Done, false)
	checkEntry(t, l, 1, gone)
	checkAnswers(t, l, 3)
}

// TestNoKindForAnother: the answer to one kind, or of one booking, is none to another.
func TestNoKindForAnother(t *testing.T) {
	for _, first := range kinds {
		for _, second := range kinds {
			l := newTill(t, funds{0, 0, 5})
			_, isNew := l.Ask(opOf(first, 1, 2))
			_, isOtherNew := l.Ask(opOf(second, 1, 2))
			_, isThirdNew := l.Ask(opOf(first, 2, 2))
			if !isNew || isOtherNew != (first != second) || !isThirdNew {
				t.Errorf("%d, %d: %v, %v, %v", first, second, isNew, isOtherNew, isThirdNew)
			}
		}
	}
}

// TestAllOrNothing is T1, as far as one purse goes: whatever comes how often and in whichever order, a booking has just its price, reserved or taken once, or nothing; and behind a void nothing for good.
func TestAllOrNothing(t *testing.T) {
	for seed := range int64(200) {
		random := rand.New(rand.NewSource(seed))
		l := newTill(t, funds{0, 0, 10})
		ended := false
		for range 12 {
			o := opOf(kinds[random.Intn(3)], 1, 3)
			l.Ask(o)
			ended = ended || o.Kind == api.OpVoid
			switch e := l.Purse().Entry(1); {
			case e == gone:
				checkMoney(t, l, 0, 0, 10, 0, 0, 0)
			case e == authed(2, 3) && !ended:
				checkMoney(t, l, 0, 0, 7, 0, 3, 0)
			case e == captured(2, 3) && !ended:
				checkMoney(t, l, 0, 0, 7, 0, 0, 3)
			default:
				t.Fatalf("seed %d: %+v, voided %v", seed, e, ended)
			}
		}
	}
}

// Promise 13.1: Purse; and rule 2: what is answered is the caller's.

func TestPurseIsACopy(t *testing.T) {
	for _, fill := range []bool{false, true} {
		l := newTill(t, funds{9, 9})
		if fill {
			done(t, l, auth(1, 0, 2), auth(2, 1, 3), capture(2))
		}
		before, lines := l.Bytes(), l.Purse().Lines()
		one, other := l.Purse(), l.Purse()
		if one == other || !bytes.HasPrefix(before, one.Bytes()) {
			t.Fatalf("Purse: %x of %x", one.Bytes(), before)
		}
		for _, o := range []api.Op{auth(3, 0, 1), void(1), void(2)} {
			one.Do(o)
		}
		if !bytes.Equal(l.Bytes(), before) {
			t.Errorf("what was done to the copy became of %x %x", before, l.Bytes())
		}
		checkLines(t, l, lines...)
		kept := other.Bytes()
		done(t, l, auth(4, 0, 1), void(2))
		if !bytes.Equal(other.Bytes(), kept) || !slices.Equal(other.Lines(), lines) {
			t.Errorf("what was done to the till became of its copy %x %x, %v", kept, other.Bytes(), other.Lines())
		}
	}
}

// TestCopyAnswersByItself: what a copy is asked is nothing that the till was asked.
func TestCopyAnswersByItself(t *testing.T) {
	l := newTill(t, funds{9})
	l.Purse().Do(auth(1, 0, 2))
	checkAnswers(t, l, 0)
	checkEntry(t, l, 1, api.Entry{})
	checkAsk(t, l, auth(1, 0, 3), api.Done, true)
}

func TestAnswersAreTheCallers(t *testing.T) {
	l := newTill(t, funds{9})
	done(t, l, auth(1, 0, 2), auth(2, 0, 3))
	before, b := l.Bytes(), l.Bytes()
	for i := range b {
		b[i] = 0xff
	}
	if _ = append(l.Bytes()[:1], 9, 9); !bytes.Equal(l.Bytes(), before) {
		t.Errorf("%x became %x", before, l.Bytes())
	}
	checkAsk(t, l, auth(2, 0, 3), api.Done, false)
}

// Promise 13.1: Bytes.

func TestBytesByHand(t *testing.T) {
	l := newTill(t, funds{1, 64, 0, 100})
	done(t, l, auth(200, 3, 64), auth(3, 1, 0), capture(3))
	checkAsk(t, l, auth(70, 2, 1), api.Refused, true)
	want := []byte{
		0x02, 0x80, 0x01, 0x00, 0x48, 0x80, 0x01, 0x00,
		0x06, 0x0a, 0x02, 0x00,
		0x8c, 0x01, 0x06, 0x00, 0x00,
		0x90, 0x03, 0x08, 0x06, 0x80, 0x01,
		0x08,
		0x06, 0x08, 0x02,
		0x06, 0x0a, 0x02,
		0x8c, 0x01, 0x08, 0x04,
		0x90, 0x03, 0x08, 0x02,
	}
	if !bytes.Equal(l.Bytes(), want) {
		t.Errorf("Bytes: %x, not %x", l.Bytes(), want)
	}
}

// TestBytesOfManyAnswers: their number, too, is of more than one byte.
func TestBytesOfManyAnswers(t *testing.T) {
	l := newTill(t, funds{10})
	numbers, notes := []int64{10, 0, 0, 0, 0, 0}, []int64{}
	for book := api.MaxBook; book >= 1; book-- {
		checkAsk(t, l, void(book), api.Done, true)
		checkAsk(t, l, capture(book), api.Refused, true)
		checkAsk(t, l, auth(book, 0, 1), api.Refused, true)
	}
	for book := int64(1); book <= api.MaxBook; book++ {
		numbers = append(numbers, book, api.SGone, 0, 0)
		notes = append(notes, book, 4, api.Refused, book, 5, api.Refused, book, 6, api.Done)
	}
	checkBytes(t, l, slices.Concat(numbers, []int64{600}, notes)...)
}

// TestBytesTellAnswersApart: tills of the same purse that answered otherwise have other bytes.
func TestBytesTellAnswersApart(t *testing.T) {
	one, other := newTill(t, funds{5}), newTill(t, funds{5})
	checkAsk(t, one, capture(1), api.Refused, true)
	done(t, other, void(1))
	checkBytes(t, one, 5, 0, 0, 0, 0, 0, 1, api.SGone, 0, 0, 1, 1, api.OpCapture, api.Refused)
	checkBytes(t, other, 5, 0, 0, 0, 0, 0, 1, api.SGone, 0, 0, 1, 1, api.OpVoid, api.Done)
}

// Promise 13.1: of nil; and rule 1: no call panics.

func TestNil(t *testing.T) {
	var none *till.Till
	for _, o := range []api.Op{auth(1, 0, 0), auth(1, 0, 1), capture(1), void(1), {}} {
		checkAsk(t, none, o, api.Refused, false)
	}
	checkAnswers(t, none, 0)
	if b, l := none.Bytes(), none.Purse(); len(b) != 0 || l != nil {
		t.Errorf("of nil: Bytes %x, Purse %v", b, l)
	}
}

func TestZeroTill(t *testing.T) {
	var l till.Till
	checkBytes(t, &l, 0, 0, 0, 0, 0, 0, 0)
	checkAsk(t, &l, auth(1, 0, 1), api.Refused, true)
	checkAsk(t, &l, auth(1, 0, 1), api.Refused, false)
	done(t, &l, void(2), auth(3, 3, 0))
	checkLines(t, &l, purse.Line{Book: 3, From: 3, To: reserved})
	checkBytes(t, &l, 0, 0, 0, 0, 0, 0, 1, 3, 0, 0, 2, 3, 0, 0, 3, 4, 3, 0, 3, 1, 4, 2, 2, 6, 1, 3, 4, 1)
}

// Promises 13.1 and 13.2, T2: any calls, beside a purse that is asked each thing just once.

// note is an answer in the plain list.
type note struct{ book, kind, answer int }

// plain is a till by the chapter's words: a purse, and a list of what was answered.
type plain struct {
	purse *purse.Ledger
	notes []note
}

// mayAsk tells whether a purse may be asked o.
func mayAsk(o api.Op) bool {
	if !slices.Contains(kinds, o.Kind) || o.Book < 1 || o.Book > api.MaxBook || o.Units != 0 {
		return false
	}
	if o.Kind == api.OpAuth {
		return o.Customer >= 0 && o.Customer < 4 && o.Amount >= 0 && o.Amount <= 1<<40
	}
	return o.Customer == 0 && o.Amount == 0
}

// ask answers what a till does.
func (p *plain) ask(o api.Op) (int, bool) {
	if !mayAsk(o) {
		return api.Refused, false
	}
	for _, n := range p.notes {
		if n.book == o.Book && n.kind == o.Kind {
			return n.answer, false
		}
	}
	answer := p.purse.Do(o)
	p.notes = append(p.notes, note{o.Book, o.Kind, answer})
	return answer, true
}

// bytes answers what Bytes has.
func (p *plain) bytes() []byte {
	out := append(p.purse.Bytes(), ints(int64(len(p.notes)))...)
	for book := 1; book <= api.MaxBook; book++ {
		for _, kind := range kinds {
			for _, n := range p.notes {
				if n.book == book && n.kind == kind {
					out = append(out, ints(int64(n.book), int64(n.kind), int64(n.answer))...)
				}
			}
		}
	}
	return out
}

// checkTill fails if the till is not as the plain one is, or its money is not all that customers had.
func checkTill(t *testing.T, l *till.Till, p *plain, f funds) {
	t.Helper()
	if got := l.Purse(); !bytes.Equal(got.Bytes(), p.purse.Bytes()) {
		t.Errorf("Purse: %x, not %x", got.Bytes(), p.purse.Bytes())
	}
	checkLines(t, l, p.purse.Lines()...)
	has := moneyOf(l)
	if had := f[0] + f[1] + f[2] + f[3]; has[0]+has[1]+has[2]+has[3]+has[4]+has[5] != had || slices.Min(has[:]) < 0 {
		t.Errorf("of %d became %d", f, has)
	}
	checkAnswers(t, l, len(p.notes))
	if got, want := l.Bytes(), p.bytes(); !bytes.Equal(got, want) {
		t.Errorf("Bytes: %x, not %x", got, want)
	}
}

// anyOp answers an operation, which now and then may not be.
func anyOp(random *rand.Rand, books int) api.Op {
	o := opOf(kinds[random.Intn(3)], 1+random.Intn(books), random.Int63n(6))
	if o.Kind == api.OpAuth {
		o.Customer = random.Intn(4)
	}
	switch random.Intn(40) {
	case 0:
		o.Kind = random.Intn(9) - 1
	case 1:
		o.Book = noBooks[random.Intn(len(noBooks))]
	case 2:
		o.Units = random.Intn(3)
	case 3:
		o.Customer = noCustomers[random.Intn(len(noCustomers))]
	case 4:
		o.Amount = noAmounts[random.Intn(len(noAmounts))]
	}
	return o
}

// anyCalls makes calls beside plain, many of them more than once, and answers all that was told.
func anyCalls(t *testing.T, seed int64, count int) string {
	t.Helper()
	random := rand.New(rand.NewSource(seed))
	f := funds{random.Int63n(30), random.Int63n(8), 0, random.Int63n(100)}
	l := newTill(t, f)
	ledger, _ := purse.New(f)
	p := &plain{purse: ledger}
	books, told := 1+random.Intn(60), ""
	for i := range count {
		o := anyOp(random, books)
		answer, isNew := l.Ask(o)
		if want, wantNew := p.ask(o); answer != want || isNew != wantNew {
			t.Errorf("%d, %v, not %d, %v", answer, isNew, want, wantNew)
		}
		if checkTill(t, l, p, f); t.Failed() {
			t.Fatalf("seed %d, call %d, Ask(%+v)", seed, i, o)
		}
		told += fmt.Sprintf("%d %v %x ", answer, isNew, l.Bytes())
	}
	return told
}

func TestAnyCalls(t *testing.T) {
	for seed := range int64(60) {
		anyCalls(t, seed, 200)
	}
}

func TestSameCallsSameAnswers(t *testing.T) {
	for seed := range int64(5) {
		if anyCalls(t, seed, 200) != anyCalls(t, seed, 200) {
			t.Errorf("seed %d: other answers", seed)
		}
	}
}
