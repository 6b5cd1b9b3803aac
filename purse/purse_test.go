package purse_test

import (
	"bytes"
	"encoding/binary"
	"fmt"
	"math"
	"math/rand"
	"slices"
	"testing"

	"sojourn/api"
	"sojourn/purse"
)

// Accounts behind the customers': as the chapter numbers them.
const (
	reserved = 4
	takings  = 5
)

// noBooks are numbers that no booking has.
var noBooks = []int{math.MinInt, -1 << 32, 1 - 1<<32, -1, 0, api.MaxBook + 1, 1<<32 + 1, math.MaxInt}

// noCustomers are numbers that no customer has.
var noCustomers = []int{math.MinInt, -1 << 32, 1 - 1<<32, -1, api.Customers, api.Customers + 1, api.Customers + 2, 1<<32 + 1, math.MaxInt}

// noAmounts are amounts that nobody may be asked for.
var noAmounts = []int64{math.MinInt64, -1 << 41, -3, -1, api.MaxPrice + 1, 1 << 41, math.MaxInt64}

// gone is a booking that has nothing any more.
var gone = api.Entry{State: api.SGone}

// funds are what customers have at first.
type funds = [api.Customers]int64

// auth, capture and void answer what a participant is asked.
func auth(book, customer int, amount int64) api.Op {
	return api.Op{Kind: api.OpAuth, Book: book, Customer: customer, Amount: amount}
}
func capture(book int) api.Op { return api.Op{Kind: api.OpCapture, Book: book} }
func void(book int) api.Op    { return api.Op{Kind: api.OpVoid, Book: book} }

// authed and captured answer bookings that have money.
func authed(customer int, amount int64) api.Entry {
	return api.Entry{State: api.SAuth, Customer: customer, Amount: amount}
}
func captured(customer int, amount int64) api.Entry {
	return api.Entry{State: api.SCaptured, Customer: customer, Amount: amount}
}

// newLedger answers a ledger whose customers have so much.
func newLedger(t testing.TB, f funds) *purse.Ledger {
	t.Helper()
	l, err := purse.New(f)
	if l == nil || err != api.OK {
		t.Fatalf("New(%d): %v, %d", f, l, err)
	}
	return l
}

// checkDo fails if something else is answered.
func checkDo(t testing.TB, l *purse.Ledger, o api.Op, want int) {
	t.Helper()
	if got := l.Do(o); got != want {
		t.Errorf("Do(%+v): %d, not %d", o, got, want)
	}
}

// done does what is asked, one behind the other, and fails if one is refused.
func done(t testing.TB, l *purse.Ledger, ops ...api.Op) {
	t.Helper()
	for _, o := range ops {
		checkDo(t, l, o, api.Done)
	}
}

// checkEntry fails if the booking is another one.
func checkEntry(t testing.TB, l *purse.Ledger, book int, want api.Entry) {
	t.Helper()
	if got := l.Entry(book); got != want {
		t.Errorf("Entry(%d): %+v, not %+v", book, got, want)
	}
}

// moneyOf answers what accounts have.
func moneyOf(l *purse.Ledger) [6]int64 {
	return [6]int64{l.Balance(0), l.Balance(1), l.Balance(2), l.Balance(3), l.Reserved(), l.Takings()}
}

// checkMoney fails if accounts have something else.
func checkMoney(t testing.TB, l *purse.Ledger, want ...int64) {
	t.Helper()
	if got := moneyOf(l); !slices.Equal(got[:], want) {
		t.Errorf("accounts have %d, not %d", got, want)
	}
}

// checkLines fails if other moves were made.
func checkLines(t testing.TB, l *purse.Ledger, want ...purse.Line) {
	t.Helper()
	got := l.Lines()
	for i := range min(len(got), len(want)) {
		if got[i] != want[i] {
			t.Errorf("line %d: %+v, not %+v", i, got[i], want[i])
		}
	}
	if len(got) != len(want) {
		t.Errorf("%d lines, not %d", len(got), len(want))
	}
}

// ints answers the bytes of numbers, each as chapter 1's Int.
func ints(l ...int64) []byte {
	var out []byte
	for _, v := range l {
		out = binary.AppendVarint(out, v)
	}
	return out
}

// checkBytes fails if Bytes are not those of the numbers.
func checkBytes(t testing.TB, l *purse.Ledger, want ...int64) {
	t.Helper()
	if got := l.Bytes(); !bytes.Equal(got, ints(want...)) {
		t.Errorf("Bytes: %x, not %x", got, ints(want...))
	}
}

// Promise 10.1: New.

func TestNewOfFunds(t *testing.T) {
	for _, f := range []funds{
		{}, {1, 2, 3, 4}, {api.MaxPrice, 0, 0, 0}, {0, 0, 0, api.MaxPrice}, {0, api.MaxPrice - 1, 5, 0},
		{api.MaxPrice, api.MaxPrice, api.MaxPrice, api.MaxPrice},
	} {
		l := newLedger(t, f)
		checkMoney(t, l, f[0], f[1], f[2], f[3], 0, 0)
		checkBytes(t, l, f[0], f[1], f[2], f[3], 0, 0)
		checkLines(t, l)
		for _, book := range append([]int{1, 2, api.MaxBook}, noBooks...) {
			checkEntry(t, l, book, api.Entry{})
		}
	}
}

func TestNewOfNoFunds(t *testing.T) {
	for _, wrong := range noAmounts {
		for customer := range api.Customers {
			for _, right := range []int64{0, 1, api.MaxPrice} {
				f := funds{right, right, right, right}
				f[customer] = wrong
				if l, err := purse.New(f); l != nil || err != api.ErrArg {
					t.Errorf("New(%d): %v, %d", f, l, err)
				}
			}
		}
		for _, other := range noAmounts {
			if l, err := purse.New(funds{wrong, other, wrong, other}); l != nil || err != api.ErrArg {
				t.Errorf("New of %d, %d: %v, %d", wrong, other, l, err)
			}
		}
	}
}

func TestLedgersAreApart(t *testing.T) {
	one, other := newLedger(t, funds{5}), newLedger(t, funds{5})
	done(t, one, auth(1, 0, 3))
	checkMoney(t, other, 5, 0, 0, 0, 0, 0)
	checkEntry(t, other, 1, api.Entry{})
	checkLines(t, other)
}

// Promise 10.1: Do, by the table.

// inState answers a ledger whose booking 1, of 3 of customer 2, is in that state; customers have 20, 30, 10, 0, and no others' money is anywhere else.
func inState(t testing.TB, state int) *purse.Ledger {
	t.Helper()
	l := newLedger(t, funds{20, 30, 10, 0})
	switch state {
	case api.SAuth:
		done(t, l, auth(1, 2, 3))
	case api.SCaptured:
		done(t, l, auth(1, 2, 3), capture(1))
	case api.SGone:
		done(t, l, auth(1, 2, 3), void(1))
	}
	if got := l.Entry(1).State; got != state {
		t.Fatalf("state %d, not %d", got, state)
	}
	return l
}

// line answers a move of booking 1.
func line(from, to int, amount int64) purse.Line {
	return purse.Line{Book: 1, From: from, To: to, Amount: amount}
}

func TestDoByTheTable(t *testing.T) {
	had, has := authed(2, 3), captured(2, 3)
	for _, c := range []struct {
		state int
		op    api.Op
		want  int
		entry api.Entry
		moves []purse.Line
	}{
		{api.SNone, auth(1, 2, 3), api.Done, authed(2, 3), []purse.Line{line(2, reserved, 3)}},
		{api.SNone, auth(1, 0, 20), api.Done, authed(0, 20), []purse.Line{line(0, reserved, 20)}},
		{api.SNone, auth(1, 0, 21), api.Refused, gone, nil},
		{api.SNone, auth(1, 1, 30), api.Done, authed(1, 30), []purse.Line{line(1, reserved, 30)}},
		{api.SNone, auth(1, 1, 31), api.Refused, gone, nil},
		{api.SNone, auth(1, 2, 10), api.Done, authed(2, 10), []purse.Line{line(2, reserved, 10)}},
		{api.SNone, auth(1, 2, 11), api.Refused, gone, nil},
		{api.SNone, auth(1, 2, api.MaxPrice), api.Refused, gone, nil},
		{api.SNone, auth(1, 2, 0), api.Done, authed(2, 0), []purse.Line{line(2, reserved, 0)}},
		{api.SNone, auth(1, 3, 0), api.Done, authed(3, 0), []purse.Line{line(3, reserved, 0)}},
		{api.SNone, auth(1, 3, 1), api.Refused, gone, nil},
		{api.SAuth, auth(1, 2, 3), api.Done, had, nil},
		{api.SAuth, auth(1, 2, 2), api.Refused, had, nil},
		{api.SAuth, auth(1, 2, 4), api.Refused, had, nil},
		{api.SAuth, auth(1, 2, 0), api.Refused, had, nil},
		{api.SAuth, auth(1, 2, api.MaxPrice), api.Refused, had, nil},
		{api.SAuth, auth(1, 1, 3), api.Refused, had, nil},
		{api.SAuth, auth(1, 3, 3), api.Refused, had, nil},
		{api.SAuth, auth(1, 0, 0), api.Refused, had, nil},
		{api.SCaptured, auth(1, 2, 3), api.Done, has, nil},
		{api.SCaptured, auth(1, 2, 2), api.Refused, has, nil},
		{api.SCaptured, auth(1, 2, 4), api.Refused, has, nil},
		{api.SCaptured, auth(1, 1, 3), api.Refused, has, nil},
		{api.SCaptured, auth(1, 0, 0), api.Refused, has, nil},
		{api.SGone, auth(1, 2, 3), api.Refused, gone, nil},
		{api.SGone, auth(1, 1, 1), api.Refused, gone, nil},
		{api.SGone, auth(1, 0, 0), api.Refused, gone, nil},

		{api.SNone, capture(1), api.Refused, gone, nil},
		{api.SAuth, capture(1), api.Done, has, []purse.Line{line(reserved, takings, 3)}},
		{api.SCaptured, capture(1), api.Done, has, nil},
		{api.SGone, capture(1), api.Refused, gone, nil},

		{api.SNone, void(1), api.Done, gone, nil},
		{api.SAuth, void(1), api.Done, gone, []purse.Line{line(reserved, 2, 3)}},
		{api.SCaptured, void(1), api.Done, gone, []purse.Line{line(takings, 2, 3)}},
		{api.SGone, void(1), api.Done, gone, nil},
	} {
		l := inState(t, c.state)
		before := l.Lines()
		checkDo(t, l, c.op, c.want)
		checkEntry(t, l, 1, c.entry)
		checkLines(t, l, append(before, c.moves...)...)
		money := []int64{20, 30, 10, 0, 0, 0}
		money[c.entry.Customer] -= c.entry.Amount
		switch c.entry.State {
		case api.SAuth:
			money[reserved] = c.entry.Amount
		case api.SCaptured:
			money[takings] = c.entry.Amount
		}
		checkMoney(t, l, money...)
		checkBytes(t, l, append(money, 1, int64(c.entry.State), int64(c.entry.Customer), c.entry.Amount)...)
	}
}

// checkNotDone fails if what is asked is not refused, or changes something, in any of the states.
func checkNotDone(t *testing.T, o api.Op) {
	t.Helper()
	for _, state := range []int{api.SNone, api.SAuth, api.SCaptured, api.SGone} {
		l := inState(t, state)
		before, lines, entry := l.Bytes(), l.Lines(), l.Entry(1)
		checkDo(t, l, o, api.Refused)
		if !bytes.Equal(l.Bytes(), before) {
			t.Errorf("Do(%+v) of state %d: %x became %x", o, state, before, l.Bytes())
		}
		checkLines(t, l, lines...)
		checkEntry(t, l, 1, entry)
	}
}

func TestDoOfWhatMayNotBe(t *testing.T) {
	no := []api.Op{{}}
	for _, book := range noBooks {
		no = append(no, auth(book, 2, 3), capture(book), void(book))
	}
	for _, customer := range noCustomers {
		no = append(no, auth(1, customer, 3), auth(1, customer, 0))
	}
	for _, amount := range noAmounts {
		no = append(no, auth(1, 2, amount))
	}
	for _, o := range []api.Op{auth(1, 2, 3), capture(1), void(1)} {
		for _, units := range []int{-3, -1, 1, 3} {
			o.Units = units
			no = append(no, o)
		}
	}
	for _, o := range []api.Op{capture(1), void(1)} {
		withCustomer, withAmount := o, o
		withCustomer.Customer, withAmount.Amount = 2, 3
		no = append(no, withCustomer, withAmount)
	}
	for _, kind := range []int{math.MinInt, -1, 0, 7, 1<<32 + api.OpAuth, math.MaxInt} {
		no = append(no, api.Op{Kind: kind, Book: 1}, api.Op{Kind: kind, Book: 1, Customer: 2, Amount: 3})
	}
	for _, o := range no {
		checkNotDone(t, o)
	}
}

func TestDoOfInventoriesKinds(t *testing.T) {
	for _, o := range []api.Op{
		{Kind: api.OpHold, Book: 1, Units: 3}, {Kind: api.OpConfirm, Book: 1}, {Kind: api.OpRelease, Book: 1},
	} {
		checkNotDone(t, o)
	}
}

func TestDoOfAllBooks(t *testing.T) {
	l := newLedger(t, funds{api.MaxPrice, api.MaxPrice, api.MaxPrice, api.MaxPrice})
	var lines []purse.Line
	move := func(book, from, to int, amount int64) {
		lines = append(lines, purse.Line{Book: book, From: from, To: to, Amount: amount})
	}
	all := int64(0)
	for book := 1; book <= api.MaxBook; book++ {
		customer, amount := book%4, int64(book)<<27
		done(t, l, auth(book, customer, amount))
		move(book, customer, reserved, amount)
		all += amount
		checkEntry(t, l, book, authed(customer, amount))
	}
	if l.Reserved() != all || l.Takings() != 0 {
		t.Errorf("reserved, takings: %d, %d, not %d, 0", l.Reserved(), l.Takings(), all)
	}
	for book := 1; book <= api.MaxBook; book++ {
		customer, amount := book%4, int64(book)<<27
		done(t, l, capture(book))
		move(book, reserved, takings, amount)
		checkEntry(t, l, book, captured(customer, amount))
	}
	if l.Reserved() != 0 || l.Takings() != all {
		t.Errorf("reserved, takings: %d, %d, not 0, %d", l.Reserved(), l.Takings(), all)
	}
	for book := 1; book <= api.MaxBook; book++ {
		done(t, l, void(book))
		move(book, takings, book%4, int64(book)<<27)
		checkEntry(t, l, book, gone)
	}
	checkMoney(t, l, api.MaxPrice, api.MaxPrice, api.MaxPrice, api.MaxPrice, 0, 0)
	checkLines(t, l, lines...)
}

func TestGreatestAmounts(t *testing.T) {
	const most = api.MaxPrice
	l := newLedger(t, funds{most, most, most, most})
	for customer := range api.Customers {
		done(t, l, auth(customer+1, customer, most))
	}
	checkMoney(t, l, 0, 0, 0, 0, 4*most, 0)
	done(t, l, capture(1), capture(2), capture(3), capture(4))
	checkMoney(t, l, 0, 0, 0, 0, 0, 4*most)
	checkBytes(t, l, 0, 0, 0, 0, 0, 4*most, 1, 5, 0, most, 2, 5, 1, most, 3, 5, 2, most, 4, 5, 3, most)
	done(t, l, void(4), void(3), void(2), void(1))
	checkMoney(t, l, most, most, most, most, 0, 0)
}

// The ten examples of DOC.md: those of a purse.

func TestExamples(t *testing.T) {
	for customer := range api.Customers {
		var f funds
		f[customer] = 5
		l := newLedger(t, f)
		checkDo(t, l, auth(1, customer, 6), api.Refused)
		checkEntry(t, l, 1, gone)
		checkLines(t, l)
		checkMoney(t, l, f[0], f[1], f[2], f[3], 0, 0)
		checkDo(t, l, auth(2, (customer+1)%4, 5), api.Refused)
		checkDo(t, l, auth(3, customer, 5), api.Done)
	}
}

// TestMoneyOfOneIsNotAnothers: what is reserved or taken is no customer's to pay with.
func TestMoneyOfOneIsNotAnothers(t *testing.T) {
	l := newLedger(t, funds{5, 0, 7, 1})
	done(t, l, auth(1, 0, 3), auth(2, 2, 4), capture(2))
	checkMoney(t, l, 2, 0, 3, 1, 3, 4)
	checkDo(t, l, auth(3, 0, 3), api.Refused)
	checkDo(t, l, auth(4, 1, 1), api.Refused)
	checkDo(t, l, auth(5, 2, 4), api.Refused)
	done(t, l, auth(6, 0, 2), void(2))
	checkMoney(t, l, 0, 0, 7, 1, 5, 0)
	done(t, l, auth(7, 2, 7))
	checkMoney(t, l, 0, 0, 0, 1, 12, 0)
}

// TestRefusedIsGone: what was refused is so for good, though there be money later.
func TestRefusedIsGone(t *testing.T) {
	l := newLedger(t, funds{3})
	done(t, l, auth(1, 0, 2))
	checkDo(t, l, auth(2, 0, 2), api.Refused)
	done(t, l, void(1))
	checkDo(t, l, auth(2, 0, 2), api.Refused)
	checkDo(t, l, auth(2, 0, 0), api.Refused)
	checkDo(t, l, capture(2), api.Refused)
	done(t, l, void(2))
	checkEntry(t, l, 2, gone)
	checkMoney(t, l, 3, 0, 0, 0, 0, 0)
	checkLines(t, l, line(0, reserved, 2), line(reserved, 0, 2))
}

// Promise 10.2: Balance, Lines.

func TestBalanceOfNone(t *testing.T) {
	l := newLedger(t, funds{1, 2, 3, 4})
	done(t, l, auth(1, 3, 2), auth(2, 2, 1), capture(2))
	checkMoney(t, l, 1, 2, 2, 2, 2, 1)
	for _, customer := range noCustomers {
		if got := l.Balance(customer); got != 0 {
			t.Errorf("Balance(%d): %d", customer, got)
		}
	}
}

func TestLinesInTheirOrder(t *testing.T) {
	l := newLedger(t, funds{9, 9, 9, 9})
	done(t, l, auth(200, 3, 4), auth(7, 0, 1), capture(200), auth(1, 1, 0), void(7), void(7), capture(1), capture(1), void(200), void(1))
	checkDo(t, l, auth(9, 2, 10), api.Refused)
	checkLines(t, l,
		purse.Line{Book: 200, From: 3, To: reserved, Amount: 4},
		purse.Line{Book: 7, From: 0, To: reserved, Amount: 1},
		purse.Line{Book: 200, From: reserved, To: takings, Amount: 4},
		purse.Line{Book: 1, From: 1, To: reserved},
		purse.Line{Book: 7, From: reserved, To: 0, Amount: 1},
		purse.Line{Book: 1, From: reserved, To: takings},
		purse.Line{Book: 200, From: takings, To: 3, Amount: 4},
		purse.Line{Book: 1, From: takings, To: 1},
	)
}

// Promise 10.3: Bytes.

func TestBytesByHand(t *testing.T) {
	l := newLedger(t, funds{1, 64, 0, 100})
	done(t, l, auth(200, 3, 64), auth(3, 1, 0), capture(3), auth(64, 1, 1), capture(64))
	checkDo(t, l, auth(70, 2, 1), api.Refused)
	want := []byte{
		0x02, 0x7e, 0x00, 0x48, 0x80, 0x01, 0x02,
		0x06, 0x0a, 0x02, 0x00,
		0x80, 0x01, 0x0a, 0x02, 0x02,
		0x8c, 0x01, 0x06, 0x00, 0x00,
		0x90, 0x03, 0x08, 0x06, 0x80, 0x01,
	}
	if !bytes.Equal(l.Bytes(), want) {
		t.Errorf("Bytes: %x, not %x", l.Bytes(), want)
	}
}

func TestBytesOfGreatNumbers(t *testing.T) {
	for shift := range 41 {
		for _, amount := range []int64{1<<shift - 1, 1 << shift} {
			l := newLedger(t, funds{0, api.MaxPrice, 0, amount})
			done(t, l, auth(api.MaxBook, 1, amount))
			checkBytes(t, l, 0, api.MaxPrice-amount, 0, amount, amount, 0, api.MaxBook, api.SAuth, 1, amount)
		}
	}
}

func TestBytesOfNoBookings(t *testing.T) {
	l := newLedger(t, funds{5, 6, 7, 8})
	l.Do(auth(1, 4, 0))
	l.Do(auth(1, 0, -1))
	l.Do(auth(0, 0, 1))
	l.Do(capture(201))
	checkBytes(t, l, 5, 6, 7, 8, 0, 0)
}

// Promise 10.3: Copy; and rule 2: what is answered is the caller's.

func TestCopyIsItsOwn(t *testing.T) {
	for moves := range 20 {
		l := newLedger(t, funds{99})
		for book := range moves {
			done(t, l, auth(book+1, 0, 1))
		}
		value := *l
		for name, other := range map[string]*purse.Ledger{"Copy": l.Copy(), "value": &value} {
			before, lines := l.Bytes(), l.Lines()
			if other == l || !bytes.Equal(other.Bytes(), before) || !slices.Equal(other.Lines(), lines) {
				t.Fatalf("%s: %x %v, not %x %v", name, other.Bytes(), other.Lines(), before, lines)
			}
			done(t, other, void(1), auth(100, 0, 2), capture(100))
			if !bytes.Equal(l.Bytes(), before) || l.Entry(100) != (api.Entry{}) {
				t.Errorf("%s: what was done to it became of %x %x", name, before, l.Bytes())
			}
			checkLines(t, l, lines...)
			otherBytes, otherLines := other.Bytes(), other.Lines()
			again := l.Copy()
			done(t, again, auth(101, 0, 3), capture(101), void(101), void(100))
			if !bytes.Equal(other.Bytes(), otherBytes) {
				t.Errorf("%s: what was done to another one became of %x %x", name, otherBytes, other.Bytes())
			}
			checkLines(t, other, otherLines...)
			checkLines(t, l, lines...)
		}
	}
}

func TestLedgerGoesOnBesideItsCopy(t *testing.T) {
	for moves := range 20 {
		l := newLedger(t, funds{99})
		for book := range moves {
			done(t, l, auth(book+1, 0, 1))
		}
		other := l.Copy()
		before, lines := other.Bytes(), other.Lines()
		done(t, l, auth(100, 0, 2), capture(100), void(1))
		if !bytes.Equal(other.Bytes(), before) {
			t.Errorf("what was done to the ledger became of its copy %x %x", before, other.Bytes())
		}
		checkLines(t, other, lines...)
		done(t, other, auth(101, 0, 3))
		checkLines(t, other, append(lines, purse.Line{Book: 101, From: 0, To: reserved, Amount: 3})...)
		checkEntry(t, l, 100, captured(0, 2))
		checkEntry(t, l, 101, api.Entry{})
		if got := l.Lines()[moves]; got != (purse.Line{Book: 100, From: 0, To: reserved, Amount: 2}) {
			t.Errorf("the ledger's next line is %v", got)
		}
	}
}

func TestAnswersAreTheCallers(t *testing.T) {
	l := newLedger(t, funds{9})
	done(t, l, auth(1, 0, 2), auth(2, 0, 3))
	before, b := l.Bytes(), l.Bytes()
	for i := range b {
		b[i] = 0xff
	}
	if !bytes.Equal(l.Bytes(), before) {
		t.Errorf("%x became %x", before, l.Bytes())
	}
	given := l.Lines()
	for i := range given {
		given[i] = purse.Line{Book: 7}
	}
	lines := []purse.Line{{Book: 1, From: 0, To: reserved, Amount: 2}, {Book: 2, From: 0, To: reserved, Amount: 3}}
	checkLines(t, l, lines...)
	_ = append(l.Lines()[:1], purse.Line{Book: 9}, purse.Line{Book: 9}, purse.Line{Book: 9})
	checkLines(t, l, lines...)
	done(t, l, capture(1))
	checkLines(t, l, append(lines, line(reserved, takings, 2))...)
}

// Promise 10.3: of nil; and rule 1: no call panics.

func TestNil(t *testing.T) {
	var none *purse.Ledger
	for _, o := range []api.Op{auth(1, 0, 0), auth(1, 0, 1), capture(1), void(1), {}} {
		checkDo(t, none, o, api.Refused)
	}
	for _, book := range append([]int{1, api.MaxBook}, noBooks...) {
		checkEntry(t, none, book, api.Entry{})
	}
	checkMoney(t, none, 0, 0, 0, 0, 0, 0)
	for _, customer := range noCustomers {
		if got := none.Balance(customer); got != 0 {
			t.Errorf("Balance(%d) of nil: %d", customer, got)
		}
	}
	checkLines(t, none)
	if b, c := none.Bytes(), none.Copy(); len(b) != 0 || c != nil {
		t.Errorf("of nil: Bytes %x, Copy %v", b, c)
	}
}

func TestZeroLedger(t *testing.T) {
	var l purse.Ledger
	checkBytes(t, l.Copy(), 0, 0, 0, 0, 0, 0)
	checkDo(t, &l, auth(1, 0, 1), api.Refused)
	checkDo(t, &l, capture(2), api.Refused)
	done(t, &l, void(3), auth(4, 3, 0))
	checkBytes(t, &l, 0, 0, 0, 0, 0, 0, 1, 3, 0, 0, 2, 3, 0, 0, 3, 3, 0, 0, 4, 4, 3, 0)
	checkLines(t, &l, purse.Line{Book: 4, From: 3, To: reserved})
}

// Promise 10.4, T1, T2: any calls, beside a plain ledger.

// plain is a purse by the chapter's words.
type plain struct {
	has   [6]int64
	books [api.MaxBook + 1]api.Entry
	lines []purse.Line
}

// move lets an amount go from an account to another one.
func (p *plain) move(book, from, to int, amount int64) {
	p.has[from] -= amount
	p.has[to] += amount
	p.lines = append(p.lines, purse.Line{Book: book, From: from, To: to, Amount: amount})
}

// auth, capture and void are the rows of the chapter's table.
func (p *plain) auth(o api.Op) int {
	switch e := p.books[o.Book]; e.State {
	case api.SNone:
		if p.has[o.Customer] < o.Amount {
			p.books[o.Book] = gone
			return api.Refused
		}
		p.move(o.Book, o.Customer, reserved, o.Amount)
		p.books[o.Book] = authed(o.Customer, o.Amount)
		return api.Done
	case api.SAuth, api.SCaptured:
		if e.Customer == o.Customer && e.Amount == o.Amount {
			return api.Done
		}
	}
	return api.Refused
}

func (p *plain) capture(book int) int {
	switch e := p.books[book]; e.State {
	case api.SNone:
		p.books[book] = gone
	case api.SAuth:
		p.move(book, reserved, takings, e.Amount)
		p.books[book] = captured(e.Customer, e.Amount)
		return api.Done
	case api.SCaptured:
		return api.Done
	}
	return api.Refused
}

func (p *plain) void(book int) int {
	switch e := p.books[book]; e.State {
	case api.SAuth:
		p.move(book, reserved, e.Customer, e.Amount)
	case api.SCaptured:
		p.move(book, takings, e.Customer, e.Amount)
	}
	p.books[book] = gone
	return api.Done
}

// do does what may be asked.
func (p *plain) do(o api.Op) int {
	if o.Book < 1 || o.Book > api.MaxBook || o.Units != 0 {
		return api.Refused
	}
	noMoney := o.Customer == 0 && o.Amount == 0
	switch {
	case o.Kind == api.OpAuth && o.Customer >= 0 && o.Customer < 4 && o.Amount >= 0 && o.Amount <= api.MaxPrice:
		return p.auth(o)
	case o.Kind == api.OpCapture && noMoney:
		return p.capture(o.Book)
	case o.Kind == api.OpVoid && noMoney:
		return p.void(o.Book)
	}
	return api.Refused
}

// numbers answers those that Bytes has.
func (p *plain) numbers() []int64 {
	l := slices.Clone(p.has[:])
	for book, e := range p.books {
		if e.State != api.SNone {
			l = append(l, int64(book), int64(e.State), int64(e.Customer), e.Amount)
		}
	}
	return l
}

// anyOp answers an operation, which now and then may not be.
func anyOp(random *rand.Rand, books int) api.Op {
	o := api.Op{Kind: api.OpAuth + random.Intn(3), Book: 1 + random.Intn(books)}
	if o.Kind == api.OpAuth {
		o.Customer, o.Amount = random.Intn(4), random.Int63n(6)
	}
	switch random.Intn(40) {
	case 0:
		o.Kind = random.Intn(9) - 1
	case 1:
		o.Book = noBooks[random.Intn(len(noBooks))]
	case 2:
		o.Units = random.Intn(3)
	case 3:
		o.Customer = noCustomers[random.Intn(len(noCustomers))]
	case 4:
		o.Amount = noAmounts[random.Intn(len(noAmounts))]
	}
	return o
}

// checkStory fails if a booking went where none may go: its price is taken once or given back, what is gone stays so, and nothing is forgotten.
func checkStory(t *testing.T, book int, before, behind api.Entry) {
	t.Helper()
	switch {
	case before == behind:
	case before.State == api.SNone && (behind.State == api.SAuth || behind == gone):
	case before.State == api.SAuth && (behind == captured(before.Customer, before.Amount) || behind == gone):
	case before.State == api.SCaptured && behind == gone:
	default:
		t.Errorf("booking %d: %+v became %+v", book, before, behind)
	}
}

// checkTwice fails if the money is not all there is, an account is below 0, the lines do not make of what customers had what accounts have, or bookings have something else than what is reserved and taken.
func checkTwice(t *testing.T, l *purse.Ledger, f funds) {
	t.Helper()
	var had, has, byLines, byBooks [6]int64
	copy(had[:], f[:])
	has, byLines = moneyOf(l), had
	for _, line := range l.Lines() {
		byLines[line.From] -= line.Amount
		byLines[line.To] += line.Amount
		if slices.Min(byLines[:]) < 0 {
			t.Errorf("behind %+v accounts have %d", line, byLines)
		}
	}
	byBooks = had
	for book := 1; book <= api.MaxBook; book++ {
		e := l.Entry(book)
		byBooks[e.Customer] -= e.Amount
		switch e.State {
		case api.SAuth:
			byBooks[reserved] += e.Amount
		case api.SCaptured:
			byBooks[takings] += e.Amount
		}
	}
	sum := func(l [6]int64) int64 { return l[0] + l[1] + l[2] + l[3] + l[4] + l[5] }
	if has != byLines || has != byBooks || sum(has) != sum(had) || slices.Min(has[:]) < 0 {
		t.Errorf("of %d became %d, by lines %d, by bookings %d", had, has, byLines, byBooks)
	}
}

// checkLedger fails if the ledger is not as the plain one is.
func checkLedger(t *testing.T, l *purse.Ledger, p *plain) {
	t.Helper()
	checkMoney(t, l, p.has[:]...)
	checkLines(t, l, p.lines...)
	for book, e := range p.books {
		checkEntry(t, l, book, e)
	}
	checkBytes(t, l, p.numbers()...)
}

// anyCalls makes calls beside plain, and answers all that was told.
func anyCalls(t *testing.T, seed int64, count int) string {
	t.Helper()
	random := rand.New(rand.NewSource(seed))
	f := funds{random.Int63n(30), random.Int63n(8), 0, random.Int63n(100)}
	p := &plain{has: [6]int64{f[0], f[1], f[2], f[3]}}
	l := newLedger(t, f)
	books, told := 1+random.Intn(60), ""
	for i := range count {
		before := p.books
		o := anyOp(random, books)
		got, want := l.Do(o), p.do(o)
		if got != want {
			t.Errorf("%d, not %d", got, want)
		}
		for book := range p.books {
			checkStory(t, book, before[book], l.Entry(book))
		}
		checkTwice(t, l, f)
		if checkLedger(t, l, p); t.Failed() {
			t.Fatalf("seed %d, call %d, Do(%+v)", seed, i, o)
		}
		told += fmt.Sprintf("%d %x %v ", got, l.Bytes(), l.Lines())
		if random.Intn(20) == 0 {
			l = l.Copy()
		}
	}
	return told
}

func TestAnyCalls(t *testing.T) {
	for seed := range int64(60) {
		anyCalls(t, seed, 200)
	}
}

func TestSameCallsSameAnswers(t *testing.T) {
	for seed := range int64(5) {
		if anyCalls(t, seed, 200) != anyCalls(t, seed, 200) {
			t.Errorf("seed %d: other answers", seed)
		}
	}
}
