package table_test

import (
	"fmt"
	"math"
	"math/rand"
	"slices"
	"testing"

	"sojourn/api"
	"sojourn/table"
)

// noBooks are numbers that no booking has.
var noBooks = []int{math.MinInt, -1 << 32, 1 - 1<<32, -1, 0, api.MaxBook + 1, 1<<32 + 1, math.MaxInt}

// noKinds are numbers that no kind of operation has.
var noKinds = []int{math.MinInt, -1 << 32, 1 - 1<<32, -1, 0, api.OpVoid + 1, 1<<32 + api.OpAuth, math.MaxInt}

// noAnswers are numbers that nobody answers.
var noAnswers = []int{math.MinInt, -1 << 32, 1 - 1<<32, -1, 0, api.Refused + 1, 1<<32 + api.Done, math.MaxInt}

// hold, auth and plain answer what a participant is asked.
func hold(book, units int) api.Op { return api.Op{Kind: api.OpHold, Book: book, Units: units} }
func auth(book, customer int, amount int64) api.Op {
	return api.Op{Kind: api.OpAuth, Book: book, Customer: customer, Amount: amount}
}
func plain(kind, book int) api.Op { return api.Op{Kind: kind, Book: book} }

// opOf answers an operation of that kind that may be asked.
func opOf(kind, book int) api.Op {
	if kind == api.OpHold {
		return hold(book, 1)
	}
	return plain(kind, book)
}

// allOps answers one operation of each kind of each booking, in the order of Keys.
func allOps() []api.Op {
	var l []api.Op
	for book := 1; book <= api.MaxBook; book++ {
		for kind := api.OpHold; kind <= api.OpVoid; kind++ {
			l = append(l, opOf(kind, book))
		}
	}
	return l
}

// checkFind fails if something else was answered; 0: nothing was.
func checkFind(t testing.TB, tab *table.Table, o api.Op, want int) {
	t.Helper()
	if got, ok := tab.Find(o); got != want || ok != (want != 0) {
		t.Errorf("Find(%+v): %d, %v, not %d", o, got, ok, want)
	}
}

// checkPut fails if it is not noted, or not refused, as it should be.
func checkPut(t testing.TB, tab *table.Table, o api.Op, answer int, want bool) {
	t.Helper()
	if got := tab.Put(o, answer); got != want {
		t.Errorf("Put(%+v, %d): %v", o, answer, got)
	}
}

// checkKeys fails if there are others, or Len is not how many they are.
func checkKeys(t testing.TB, tab *table.Table, want ...[2]int) {
	t.Helper()
	if got := tab.Keys(); !slices.Equal(got, want) {
		t.Errorf("Keys: %v, not %v", got, want)
	}
	if got := tab.Len(); got != len(want) {
		t.Errorf("Len: %d, not %d", got, len(want))
	}
}

// Promise 11.1: New.

func TestNewHasNothing(t *testing.T) {
	tab := table.New()
	if tab == nil {
		t.Fatal("New: nil")
	}
	checkKeys(t, tab)
	for _, o := range allOps() {
		checkFind(t, tab, o, 0)
	}
}

func TestTablesAreApart(t *testing.T) {
	one, other := table.New(), table.New()
	checkPut(t, one, hold(1, 2), api.Done, true)
	checkFind(t, other, hold(1, 2), 0)
	checkKeys(t, other)
	checkPut(t, other, hold(1, 2), api.Refused, true)
	checkFind(t, one, hold(1, 2), api.Done)
}

// Promise 11.1: Find and Put.

func TestPutOfAllBookingsAndKinds(t *testing.T) {
	tab := table.New()
	ops := allOps()
	for i, o := range ops {
		checkFind(t, tab, o, 0)
		checkPut(t, tab, o, 1+i%2, true)
		checkFind(t, tab, o, 1+i%2)
		if tab.Len() != i+1 {
			t.Fatalf("Len: %d, not %d", tab.Len(), i+1)
		}
	}
	for i, o := range ops {
		checkFind(t, tab, o, 1+i%2)
	}
}

func TestPutAtTheEdges(t *testing.T) {
	for _, o := range []api.Op{
		hold(1, 1), hold(1, api.MaxUnits), hold(api.MaxBook, 1), hold(api.MaxBook, api.MaxUnits),
		auth(1, 0, 0), auth(1, api.Customers-1, api.MaxPrice), auth(api.MaxBook, 0, api.MaxPrice), auth(api.MaxBook, api.Customers-1, 0),
		plain(api.OpConfirm, 1), plain(api.OpRelease, api.MaxBook), plain(api.OpCapture, 1), plain(api.OpVoid, api.MaxBook),
	} {
		for _, answer := range []int{api.Done, api.Refused} {
			tab := table.New()
			checkPut(t, tab, o, answer, true)
			checkFind(t, tab, o, answer)
			checkKeys(t, tab, [2]int{o.Book, o.Kind})
		}
	}
}

// TestFindByBookAndKind: what else is asked does not tell one operation from another.
func TestFindByBookAndKind(t *testing.T) {
	tab := table.New()
	checkPut(t, tab, hold(7, 3), api.Refused, true)
	checkPut(t, tab, auth(7, 2, 50), api.Done, true)
	checkFind(t, tab, hold(7, 3), api.Refused)
	checkFind(t, tab, hold(7, 4), api.Refused)
	checkFind(t, tab, auth(7, 2, 50), api.Done)
	checkFind(t, tab, auth(7, 1, 50), api.Done)
	checkFind(t, tab, auth(7, 2, 51), api.Done)
	checkFind(t, tab, api.Op{Kind: api.OpHold, Book: 7, Units: -1, Customer: 9, Amount: -5}, api.Refused)
	checkFind(t, tab, plain(api.OpHold, 7), api.Refused)
	for _, other := range []api.Op{
		hold(6, 3), hold(8, 3), hold(70, 3), auth(6, 2, 50), auth(8, 2, 50), auth(1, 2, 50), hold(4, 3),
		plain(api.OpConfirm, 7), plain(api.OpRelease, 7), plain(api.OpCapture, 7), plain(api.OpVoid, 7),
	} {
		checkFind(t, tab, other, 0)
	}
}

// TestBookIsNotKind: a booking and a kind with one another's numbers are others.
func TestBookIsNotKind(t *testing.T) {
	for book := api.OpHold; book <= api.OpVoid; book++ {
		for kind := api.OpHold; kind <= api.OpVoid; kind++ {
			tab := table.New()
			checkPut(t, tab, opOf(kind, book), api.Done, true)
			checkKeys(t, tab, [2]int{book, kind})
			if book != kind {
				checkFind(t, tab, opOf(book, kind), 0)
				checkPut(t, tab, opOf(book, kind), api.Refused, true)
				checkFind(t, tab, opOf(kind, book), api.Done)
			}
		}
	}
}

func TestFindOfWhatNeverIs(t *testing.T) {
	tab := table.New()
	for _, o := range allOps() {
		checkPut(t, tab, o, api.Done, true)
	}
	for _, book := range noBooks {
		for kind := api.OpHold; kind <= api.OpVoid; kind++ {
			checkFind(t, tab, plain(kind, book), 0)
		}
		for _, kind := range noKinds {
			checkFind(t, tab, plain(kind, book), 0)
		}
	}
	for _, kind := range noKinds {
		for _, book := range []int{1, 7, api.MaxBook} {
			checkFind(t, tab, plain(kind, book), 0)
		}
	}
}

// wrongOps answers operations that may not be asked.
func wrongOps() []api.Op {
	wrong := []api.Op{{}}
	for _, book := range noBooks {
		for kind := api.OpHold; kind <= api.OpVoid; kind++ {
			wrong = append(wrong, opOf(kind, book))
		}
	}
	for _, kind := range noKinds {
		wrong = append(wrong, plain(kind, 1), api.Op{Kind: kind, Book: 1, Units: 1}, api.Op{Kind: kind, Book: 1, Customer: 1, Amount: 1})
	}
	for _, units := range []int{math.MinInt, -1, 0, api.MaxUnits + 1, 1<<32 + 1, math.MaxInt} {
		wrong = append(wrong, hold(1, units))
	}
	for _, customer := range []int{math.MinInt, -1, api.Customers, 1 << 32, math.MaxInt} {
		wrong = append(wrong, auth(1, customer, 1))
	}
	for _, amount := range []int64{math.MinInt64, -1, api.MaxPrice + 1, math.MaxInt64} {
		wrong = append(wrong, auth(1, 0, amount))
	}
	for kind := api.OpHold; kind <= api.OpVoid; kind++ {
		withUnits, withCustomer, withAmount := opOf(kind, 1), opOf(kind, 1), opOf(kind, 1)
		withUnits.Units, withCustomer.Customer, withAmount.Amount = 1, 1, 1
		if kind != api.OpHold {
			wrong = append(wrong, withUnits)
		}
		if kind != api.OpAuth {
			wrong = append(wrong, withCustomer, withAmount)
		}
	}
	return wrong
}

func TestPutOfWhatMayNotBe(t *testing.T) {
	tab := table.New()
	checkPut(t, tab, hold(2, 1), api.Refused, true)
	for _, o := range wrongOps() {
		for _, answer := range []int{api.Done, api.Refused, 0} {
			checkPut(t, tab, o, answer, false)
			checkFind(t, tab, o, 0)
		}
	}
	checkKeys(t, tab, [2]int{2, api.OpHold})
	checkFind(t, tab, hold(2, 1), api.Refused)
}

func TestPutOfNoAnswer(t *testing.T) {
	tab := table.New()
	for _, o := range []api.Op{hold(1, 2), auth(3, 1, 5), plain(api.OpConfirm, 2), plain(api.OpRelease, 1), plain(api.OpCapture, 1), plain(api.OpVoid, api.MaxBook)} {
		for _, answer := range noAnswers {
			checkPut(t, tab, o, answer, false)
		}
		checkFind(t, tab, o, 0)
		checkKeys(t, tab)
	}
	checkPut(t, tab, hold(1, 2), api.Done, true)
	for _, answer := range noAnswers {
		checkPut(t, tab, hold(1, 2), answer, false)
	}
	checkFind(t, tab, hold(1, 2), api.Done)
}

// The chapter's example, and promise 11.2: who asks twice is told the same.

func TestPutTwice(t *testing.T) {
	for _, first := range []int{api.Done, api.Refused} {
		for _, second := range []int{api.Done, api.Refused} {
			for kind := api.OpHold; kind <= api.OpVoid; kind++ {
				tab := table.New()
				checkPut(t, tab, opOf(kind, 5), first, true)
				checkPut(t, tab, opOf(kind, 5), second, false)
				checkFind(t, tab, opOf(kind, 5), first)
				checkFind(t, tab, opOf(kind, 5), first)
				checkKeys(t, tab, [2]int{5, kind})
			}
		}
	}
}

// TestPutTwiceOfOthers: another operation of the same booking and kind has its answer, too.
func TestPutTwiceOfOthers(t *testing.T) {
	tab := table.New()
	checkPut(t, tab, hold(1, 2), api.Done, true)
	checkPut(t, tab, hold(1, 3), api.Refused, false)
	checkPut(t, tab, auth(1, 2, 3), api.Refused, true)
	checkPut(t, tab, auth(1, 3, 3), api.Done, false)
	checkPut(t, tab, auth(1, 2, 4), api.Done, false)
	checkFind(t, tab, hold(1, 3), api.Done)
	checkFind(t, tab, auth(1, 3, 4), api.Refused)
	checkKeys(t, tab, [2]int{1, api.OpHold}, [2]int{1, api.OpAuth})
}

// Promise 11.1: Keys.

func TestKeysRise(t *testing.T) {
	ops := allOps()
	var keys [][2]int
	for _, o := range ops {
		keys = append(keys, [2]int{o.Book, o.Kind})
	}
	random := rand.New(rand.NewSource(1))
	for range 20 {
		tab := table.New()
		for _, i := range random.Perm(len(ops)) {
			checkPut(t, tab, ops[i], 1+random.Intn(2), true)
		}
		checkKeys(t, tab, keys...)
	}
}

func TestKeysByHand(t *testing.T) {
	tab := table.New()
	for _, o := range []api.Op{plain(api.OpVoid, 2), plain(api.OpConfirm, 10), hold(100, 1), auth(2, 1, 1), plain(api.OpRelease, 1), hold(10, 3)} {
		checkPut(t, tab, o, api.Done, true)
	}
	checkKeys(t, tab, [2]int{1, 3}, [2]int{2, 4}, [2]int{2, 6}, [2]int{10, 1}, [2]int{10, 2}, [2]int{100, 1})
}

func TestKeysAreTheCallersOwn(t *testing.T) {
	tab := table.New()
	checkPut(t, tab, hold(1, 1), api.Done, true)
	checkPut(t, tab, hold(2, 1), api.Done, true)
	one, other := tab.Keys(), tab.Keys()
	one[0] = [2]int{9, 9}
	_ = append(one[:1], [2]int{8, 8})
	if !slices.Equal(other, [][2]int{{1, 1}, {2, 1}}) {
		t.Errorf("the other keys: %v", other)
	}
	checkKeys(t, tab, [2]int{1, 1}, [2]int{2, 1})
	checkFind(t, tab, plain(9, 9), 0)
	checkPut(t, tab, hold(3, 1), api.Done, true)
	if !slices.Equal(other, [][2]int{{1, 1}, {2, 1}}) {
		t.Errorf("the keys of before: %v", other)
	}
}

// Promise 11.1: of nil.

func TestNil(t *testing.T) {
	var none *table.Table
	for _, o := range append(allOps(), wrongOps()...) {
		checkFind(t, none, o, 0)
		checkPut(t, none, o, api.Done, false)
		checkPut(t, none, o, api.Refused, false)
		checkPut(t, none, o, 0, false)
	}
	checkKeys(t, none)
}

func TestZeroTable(t *testing.T) {
	var tab table.Table
	checkFind(t, &tab, hold(1, 1), 0)
	checkKeys(t, &tab)
	checkPut(t, &tab, hold(1, 1), api.Refused, true)
	checkPut(t, &tab, hold(1, 1), api.Done, false)
	checkFind(t, &tab, hold(1, 1), api.Refused)
	checkKeys(t, &tab, [2]int{1, api.OpHold})
}

// Promises 11.1, 11.2: any calls, beside a plain list.

// noted is an answer in the plain list.
type noted struct{ book, kind, answer int }

// plainFind answers what the list has; 0: nothing.
func plainFind(l []noted, o api.Op) int {
	for _, n := range l {
		if n.book == o.Book && n.kind == o.Kind {
			return n.answer
		}
	}
	return 0
}

// plainKeys answers the list's keys, rising.
func plainKeys(l []noted) [][2]int {
	var keys [][2]int
	for book := 1; book <= api.MaxBook; book++ {
		for kind := api.OpHold; kind <= api.OpVoid; kind++ {
			if plainFind(l, plain(kind, book)) != 0 {
				keys = append(keys, [2]int{book, kind})
			}
		}
	}
	return keys
}

// anyOp answers an operation, and whether it may be.
func anyOp(random *rand.Rand, books int, wrong []api.Op) (api.Op, bool) {
	book := 1 + random.Intn(books)
	switch random.Intn(8) {
	case 0:
		return wrong[random.Intn(len(wrong))], false
	case 1, 2:
		return hold(book, 1+random.Intn(api.MaxUnits)), true
	case 3, 4:
		return auth(book, random.Intn(api.Customers), random.Int63n(api.MaxPrice+1)), true
	}
	return opOf(api.OpHold+random.Intn(6), book), true
}

// anyCalls makes calls beside a plain list, and answers all that was told.
func anyCalls(t *testing.T, seed int64, count int) string {
	t.Helper()
	random := rand.New(rand.NewSource(seed))
	tab, wrong, told := table.New(), wrongOps(), ""
	var list []noted
	books := 1 + random.Intn(api.MaxBook)
	for i := range count {
		o, may := anyOp(random, books, wrong)
		answer := random.Intn(4)
		right := may && (answer == api.Done || answer == api.Refused) && plainFind(list, o) == 0
		checkFind(t, tab, o, plainFind(list, o))
		checkPut(t, tab, o, answer, right)
		if right {
			list = append(list, noted{o.Book, o.Kind, answer})
		}
		checkFind(t, tab, o, plainFind(list, o))
		if i%20 == 0 {
			for _, n := range list {
				checkFind(t, tab, plain(n.kind, n.book), n.answer)
			}
			checkKeys(t, tab, plainKeys(list)...)
		}
		if t.Failed() {
			t.Fatalf("seed %d, call %d, %+v, %d", seed, i, o, answer)
		}
		told += fmt.Sprint(tab.Len(), tab.Keys())
	}
	return told
}

func TestAnyCalls(t *testing.T) {
	for seed := range int64(30) {
		anyCalls(t, seed, 200)
	}
}

func TestSameCallsSameAnswers(t *testing.T) {
	for seed := range int64(5) {
		if anyCalls(t, seed, 200) != anyCalls(t, seed, 200) {
			t.Errorf("seed %d: other answers", seed)
		}
	}
}
