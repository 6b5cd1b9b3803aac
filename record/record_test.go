package record_test

import (
	"bytes"
	"encoding/hex"
	"math"
	"math/rand"
	"slices"
	"testing"

	"sojourn/api"
	"sojourn/pack"
	"sojourn/plan"
	"sojourn/record"
	"sojourn/saga"
	"sojourn/want"
)

// now is when the plain records are written.
const now = 100

// trip is a booking of two inventories.
var trip = api.Want{Book: 7, Customer: 2, Deadline: 9, Units: [3]int{11, 0, 13}, Price: 50}

// ops answers an operation of each kind, as it may be.
func ops() []api.Op {
	return []api.Op{
		{Kind: api.OpHold, Book: 7, Units: 11},
		{Kind: api.OpConfirm, Book: 7},
		{Kind: api.OpRelease, Book: 7},
		{Kind: api.OpAuth, Book: 7, Customer: 2, Amount: 50},
		{Kind: api.OpCapture, Book: 7},
		{Kind: api.OpVoid, Book: 7},
	}
}

// sagas answers sagas of each phase, as they may be.
func sagas() []api.Saga {
	return []api.Saga{
		{Want: trip, Phase: api.PForward, Since: 91},
		{Want: trip, Phase: api.PForward, Step: 4, Since: 91},
		{Want: trip, Phase: api.PCommit, Since: 91},
		{Want: trip, Phase: api.PBack, Step: 2, Reason: api.ByDeadline, Since: 91},
		{Want: trip, Phase: api.PBooked, Since: 91},
		{Want: trip, Phase: api.PAborted, Reason: api.ByFunds, Since: 91},
	}
}

// opRecord, sweep and sagaRecord answer a record of each kind.
func opRecord(o api.Op, answer int) api.Record {
	return api.Record{Kind: api.ROp, Now: now, Op: o, Answer: answer}
}
func sweep() api.Record { return api.Record{Kind: api.RSweep, Now: now} }
func sagaRecord(s api.Saga) api.Record {
	return api.Record{Kind: api.RSaga, Now: now, Saga: s}
}

// plain answers records of all kinds, as they may be.
func plain() []api.Record {
	all := []api.Record{sweep()}
	for _, o := range ops() {
		all = append(all, opRecord(o, api.Done), opRecord(o, api.Refused))
	}
	for _, s := range sagas() {
		all = append(all, sagaRecord(s))
	}
	return all
}

// edges answers numbers around those from lo to hi, both the ones within and the ones beyond.
func edges(lo, hi int64) []int64 {
	return []int64{lo, hi, lo/2 + hi/2, lo - 1, hi + 1, 0, -1, -1 << 32, lo - 1<<32, lo + 1<<32, hi + 1<<42, math.MinInt64, math.MaxInt64}
}

// numbers answers what Ints of those are.
func numbers(l ...int64) []byte {
	var w pack.Writer
	for _, v := range l {
		w.Int(v)
	}
	return w.Bytes()
}

// text answers what a Text of b is.
func text(b []byte) []byte {
	return append(numbers(int64(len(b))), b...)
}

// opBytes and sagaBytes answer the bytes of an operation and of a saga, whatever they are, as chapters 3 and 15 have them.
func opBytes(o api.Op) []byte {
	return numbers(int64(o.Kind), int64(o.Book), int64(o.Units), int64(o.Customer), o.Amount)
}
func sagaBytes(s api.Saga) []byte {
	w := s.Want
	return numbers(int64(w.Book), int64(w.Customer), int64(w.Deadline), int64(w.Units[0]), int64(w.Units[1]), int64(w.Units[2]), w.Price,
		int64(s.Phase), int64(s.Step), int64(s.Reason), int64(s.Since))
}

// bytesOf answers the bytes of r, whatever it is, as chapter 17 has them: a part that its kind has not is not told.
func bytesOf(r api.Record) []byte {
	head := numbers(int64(r.Kind), int64(r.Now))
	switch r.Kind {
	case api.ROp:
		return slices.Concat(head, text(opBytes(r.Op)), numbers(int64(r.Answer)))
	case api.RSaga:
		return slices.Concat(head, text(sagaBytes(r.Saga)))
	}
	return head
}

// checkMay fails if r is not taken as one that may be.
func checkMay(t *testing.T, r api.Record) {
	t.Helper()
	if !record.May(r) {
		t.Errorf("May(%+v) not", r)
	}
	b, err := record.Put(r)
	if err != api.OK || !bytes.Equal(b, bytesOf(r)) {
		t.Errorf("Put(%+v): %x, %d, not %x", r, b, err, bytesOf(r))
	}
	got, err := record.Get(bytesOf(r))
	if err != api.OK || got != r || !record.Same(got, r) {
		t.Errorf("Get of %+v: %+v, %d", r, got, err)
	}
}

// checkMayNot fails if r is taken as one that may be.
func checkMayNot(t *testing.T, r api.Record) {
	t.Helper()
	if record.May(r) {
		t.Errorf("May(%+v)", r)
	}
	if b, err := record.Put(r); err != api.ErrArg || len(b) != 0 {
		t.Errorf("Put(%+v): %x, %d", r, b, err)
	}
}

// check fails if r is not taken as may says; told: its bytes tell all of it.
func check(t *testing.T, r api.Record, may, told bool) {
	t.Helper()
	if may {
		checkMay(t, r)
		return
	}
	checkMayNot(t, r)
	if told {
		checkBad(t, "of what may not be", bytesOf(r))
	}
}

// checkBad fails if Get takes b.
func checkBad(t *testing.T, name string, b []byte) {
	t.Helper()
	if r, err := record.Get(b); err != api.ErrBad || r != (api.Record{}) {
		t.Errorf("%s: Get(%x): %+v, %d", name, b, r, err)
	}
}

// TestExample is the chapter's.
func TestExample(t *testing.T) {
	checkBad(t, "nil", nil)
	checkBad(t, "nothing", []byte{})
}

// Promise 17.1: May.

func TestMay(t *testing.T) {
	for _, r := range plain() {
		checkMay(t, r)
	}
	checkMayNot(t, api.Record{})
}

func TestMayOfNow(t *testing.T) {
	for _, r := range plain() {
		for _, v := range edges(0, api.MaxTick) {
			r.Now = int(v)
			check(t, r, v >= 0 && v <= api.MaxTick, true)
		}
	}
}

// TestMayOfKind: a record of one kind is none of another one, and there are no more kinds.
func TestMayOfKind(t *testing.T) {
	for _, r := range plain() {
		kind := r.Kind
		for _, v := range append(edges(api.ROp, api.RSaga), api.RSweep, 4, 5, 6, 7) {
			if r.Kind = int(v); r.Kind != kind {
				checkMayNot(t, r)
			}
		}
	}
	for _, v := range edges(api.ROp, api.RSaga) {
		if v != api.RSweep {
			check(t, api.Record{Kind: int(v), Now: now}, false, true)
		}
	}
}

func TestMayOfAnswer(t *testing.T) {
	for _, o := range ops() {
		for _, v := range append(edges(api.Done, api.Refused), 0, 3) {
			check(t, opRecord(o, int(v)), v == api.Done || v == api.Refused, true)
		}
	}
	for _, r := range plain() {
		for _, v := range append(edges(api.Done, api.Refused), 3) {
			if r.Kind != api.ROp && v != 0 {
				r.Answer = int(v)
				checkMayNot(t, r)
			}
		}
	}
}

// TestMayOfOp: of an operation's record it may be just what want.MayOp says.
func TestMayOfOp(t *testing.T) {
	for _, o := range ops() {
		for _, c := range []struct {
			lo, hi int64
			set    func(o *api.Op, v int64)
		}{
			{api.OpHold, api.OpVoid, func(o *api.Op, v int64) { o.Kind = int(v) }},
			{1, api.MaxBook, func(o *api.Op, v int64) { o.Book = int(v) }},
			{0, api.MaxUnits, func(o *api.Op, v int64) { o.Units = int(v) }},
			{0, api.Customers - 1, func(o *api.Op, v int64) { o.Customer = int(v) }},
			{0, api.MaxPrice, func(o *api.Op, v int64) { o.Amount = v }},
		} {
			for _, v := range edges(c.lo, c.hi) {
				moved := o
				c.set(&moved, v)
				check(t, opRecord(moved, api.Done), want.MayOp(moved), true)
				check(t, opRecord(moved, api.Refused), want.MayOp(moved), true)
			}
		}
	}
	check(t, opRecord(api.Op{}, api.Done), false, true)
}

// TestMayOfSaga: of a saga's record it may be just what saga.May says.
func TestMayOfSaga(t *testing.T) {
	for _, s := range sagas() {
		for _, c := range []struct {
			lo, hi int64
			set    func(s *api.Saga, v int64)
		}{
			{1, api.MaxBook, func(s *api.Saga, v int64) { s.Want.Book = int(v) }},
			{0, api.Customers - 1, func(s *api.Saga, v int64) { s.Want.Customer = int(v) }},
			{0, api.MaxTick, func(s *api.Saga, v int64) { s.Want.Deadline = int(v) }},
			{0, api.MaxUnits, func(s *api.Saga, v int64) { s.Want.Units[1] = int(v) }},
			{0, api.MaxPrice, func(s *api.Saga, v int64) { s.Want.Price = v }},
			{api.PForward, api.PAborted, func(s *api.Saga, v int64) { s.Phase = int(v) }},
			{0, 4, func(s *api.Saga, v int64) { s.Step = int(v) }},
			{api.ByResource, api.ByCancel, func(s *api.Saga, v int64) { s.Reason = int(v) }},
			{0, api.MaxTick, func(s *api.Saga, v int64) { s.Since = int(v) }},
		} {
			for _, v := range edges(c.lo, c.hi) {
				moved := s
				c.set(&moved, v)
				check(t, sagaRecord(moved), saga.May(moved), true)
			}
		}
	}
	check(t, sagaRecord(api.Saga{}), false, true)
}

// TestMayOfOtherParts: a part that its kind has not is zero, whether it may be or not.
func TestMayOfOtherParts(t *testing.T) {
	someOps := append(ops(), api.Op{Kind: 1}, api.Op{Book: 1}, api.Op{Units: -1}, api.Op{Customer: 1}, api.Op{Amount: math.MinInt64})
	someSagas := append(sagas(), api.Saga{Want: trip}, api.Saga{Phase: 1}, api.Saga{Step: -1}, api.Saga{Reason: 1}, api.Saga{Since: 1},
		api.Saga{Want: api.Want{Units: [3]int{0, 0, 1}}}, api.Saga{Want: api.Want{Price: -1}})
	for _, r := range plain() {
		if r.Kind != api.ROp {
			for _, r.Op = range someOps {
				checkMayNot(t, r)
			}
			r.Op = api.Op{}
		}
		if r.Kind != api.RSaga {
			for _, r.Saga = range someSagas {
				checkMayNot(t, r)
			}
		}
	}
}

// TestMayOfAnyTimes: a record may be written ahead of what it tells, as it may be behind: each is a time of its own.
func TestMayOfAnyTimes(t *testing.T) {
	for _, r := range []api.Record{sagaRecord(sagas()[0]), sweep(), opRecord(ops()[0], api.Done)} {
		for _, r.Now = range []int{0, 90, 91, 92, api.MaxTick} {
			checkMay(t, r)
		}
	}
}

// Promise 17.1: Put, Get.

func TestPutByHand(t *testing.T) {
	least := api.Want{Book: 1, Units: [3]int{0, 0, 1}}
	for digits, r := range map[string]api.Record{
		"0400":                                {Kind: api.RSweep},
		"04c801":                              sweep(),
		"04" + farthest:                       {Kind: api.RSweep, Now: 1 << 40},
		"0202" + "0a" + "0202020000" + "02":   {Kind: api.ROp, Now: 1, Op: api.Op{Kind: api.OpHold, Book: 1, Units: 1}, Answer: api.Done},
		"02c801" + "0a" + "080e000464" + "04": opRecord(ops()[3], api.Refused),
		"0200" + "16" + "089003" + "0006" + farthest + "04":    {Kind: api.ROp, Op: api.Op{Kind: api.OpAuth, Book: 200, Customer: 3, Amount: 1 << 40}, Answer: api.Refused},
		"0600" + "16" + "02000000000200" + "02000000":          {Kind: api.RSaga, Saga: api.Saga{Want: least, Phase: api.PForward}},
		"06c801" + "18" + "0e0412" + "16001a64" + "060406b601": sagaRecord(sagas()[3]),
	} {
		b, err := record.Put(r)
		if hex.EncodeToString(b) != digits || err != api.OK {
			t.Errorf("Put(%+v): %x, %d, not %s", r, b, err, digits)
		}
		if got, err := record.Get(b); got != r || err != api.OK {
			t.Errorf("Get(%x): %+v, %d, not %+v", b, got, err, r)
		}
	}
}

// farthest: MaxTick and MaxPrice, as a number.
const farthest = "808080808040"

// badForms answers, by name, bytes near those of a record that are another form of them, or none. Its last number is of one byte.
func badForms(good []byte) map[string][]byte {
	last := len(good) - 1
	return map[string][]byte{
		"a byte more":        append(slices.Clone(good), 0),
		"a byte ahead":       append([]byte{0}, good...),
		"twice":              slices.Concat(good, good),
		"a longer number":    append(slices.Clone(good[:last]), good[last]|128, 0),
		"a longer first":     slices.Concat([]byte{good[0] | 128, 0}, good[1:]),
		"no end":             append(slices.Clone(good[:last]), good[last]|128),
		"more than 64 bits":  slices.Concat(good[:last], []byte{good[last] | 128}, bytes.Repeat([]byte{128}, 9), []byte{1}),
		"far more than that": slices.Concat(good[:last], []byte{good[last] | 128}, bytes.Repeat([]byte{128}, 999), []byte{1}),
		"no end at all":      bytes.Repeat([]byte{255}, 40),
		"none but 0":         make([]byte, len(good)),
	}
}

func TestGetOfNoForm(t *testing.T) {
	for _, r := range plain() {
		r.Now = 5
		if r.Kind == api.RSaga {
			r.Saga.Since = 5
		}
		good := bytesOf(r)
		for name, b := range badForms(good) {
			checkBad(t, name, b)
		}
		for n := range good {
			checkBad(t, "a beginning", good[:n])
			checkBad(t, "a number that is longer", slices.Replace(slices.Clone(good), n, n+1, good[n]|128, 0))
		}
	}
}

// TestGetOfOtherParts: a part is what its own Get takes, with its length, and nothing else.
func TestGetOfOtherParts(t *testing.T) {
	op, trips := opBytes(ops()[0]), sagaBytes(sagas()[0])
	opHead, sagaHead, done := numbers(api.ROp, now), numbers(api.RSaga, now), numbers(api.Done)
	for name, part := range map[string][]byte{
		"no part":         nil,
		"an empty one":    text(nil),
		"an operation":    op,
		"a saga":          trips,
		"one more byte":   text(append(slices.Clone(op), 0)),
		"one less":        text(op[:len(op)-1]),
		"a shorter saga":  text(trips[:len(trips)-1]),
		"a longer saga":   text(append(slices.Clone(trips), 0)),
		"both":            append(text(op), text(trips)...),
		"a long length":   append([]byte{byte(2*len(op)) | 128, 0}, op...),
		"too long a part": append(numbers(1<<40), op...),
		"the longest":     append(numbers(math.MaxInt64), op...),
		"below nought":    append(numbers(-1), op...),
		"least":           append(numbers(math.MinInt64), trips...),
		"a record":        text(bytesOf(plain()[1])),
	} {
		checkBad(t, name, slices.Concat(opHead, part, done))
		checkBad(t, name, slices.Concat(opHead, part))
		checkBad(t, name, slices.Concat(sagaHead, part))
		checkBad(t, name, slices.Concat(numbers(api.RSweep, now), part, done))
	}
	checkBad(t, "a saga for an operation", slices.Concat(opHead, text(trips), done))
	checkBad(t, "an operation for a saga", slices.Concat(sagaHead, text(op)))
	checkBad(t, "a saga's record with an answer", slices.Concat(sagaHead, text(trips), done))
	checkBad(t, "a sweep with an answer of 0", append(numbers(api.RSweep, now), 0))
}

// Promise 17.1: Same.

// fields answers, for each part of a record, what puts a number there.
func fields() map[string]func(r *api.Record, v int) {
	return map[string]func(r *api.Record, v int){
		"Kind":          func(r *api.Record, v int) { r.Kind = v },
		"Now":           func(r *api.Record, v int) { r.Now = v },
		"Answer":        func(r *api.Record, v int) { r.Answer = v },
		"Op.Kind":       func(r *api.Record, v int) { r.Op.Kind = v },
		"Op.Book":       func(r *api.Record, v int) { r.Op.Book = v },
		"Op.Units":      func(r *api.Record, v int) { r.Op.Units = v },
		"Op.Customer":   func(r *api.Record, v int) { r.Op.Customer = v },
		"Op.Amount":     func(r *api.Record, v int) { r.Op.Amount = int64(v) },
		"Want.Book":     func(r *api.Record, v int) { r.Saga.Want.Book = v },
		"Want.Customer": func(r *api.Record, v int) { r.Saga.Want.Customer = v },
		"Want.Deadline": func(r *api.Record, v int) { r.Saga.Want.Deadline = v },
		"Want.Units 0":  func(r *api.Record, v int) { r.Saga.Want.Units[0] = v },
		"Want.Units 1":  func(r *api.Record, v int) { r.Saga.Want.Units[1] = v },
		"Want.Units 2":  func(r *api.Record, v int) { r.Saga.Want.Units[2] = v },
		"Want.Price":    func(r *api.Record, v int) { r.Saga.Want.Price = int64(v) },
		"Phase":         func(r *api.Record, v int) { r.Saga.Phase = v },
		"Step":          func(r *api.Record, v int) { r.Saga.Step = v },
		"Reason":        func(r *api.Record, v int) { r.Saga.Reason = v },
		"Since":         func(r *api.Record, v int) { r.Saga.Since = v },
	}
}

// TestSame: records that may not be are the same, or not, as all others are.
func TestSame(t *testing.T) {
	all := append(plain(), api.Record{})
	for i, a := range all {
		for j, b := range all {
			if record.Same(a, b) != (i == j) {
				t.Errorf("Same(%+v, %+v): %t", a, b, i != j)
			}
		}
		for name, set := range fields() {
			for _, v := range []int{-1, 1 << 32, math.MinInt, math.MaxInt} {
				b := a
				set(&b, v)
				if record.Same(a, b) || record.Same(b, a) || !record.Same(b, b) {
					t.Errorf("%s of %+v is %d: Same %t, %t, with itself %t", name, a, v, record.Same(a, b), record.Same(b, a), record.Same(b, b))
				}
			}
		}
	}
}

// Promise 17.2: records come back.

// randomOp answers an operation that may be.
func randomOp(random *rand.Rand) api.Op {
	o := api.Op{Kind: 1 + random.Intn(api.OpVoid), Book: 1 + random.Intn(api.MaxBook)}
	switch o.Kind {
	case api.OpHold:
		o.Units = 1 + random.Intn(api.MaxUnits)
	case api.OpAuth:
		o.Customer, o.Amount = random.Intn(api.Customers), random.Int63n(api.MaxPrice+1)>>random.Intn(42)
	}
	return o
}

// randomTick answers a time, near or far.
func randomTick(random *rand.Rand) int {
	return int(random.Int63n(api.MaxTick+1) >> random.Intn(42))
}

// randomSaga answers a saga that may be: one that went some steps.
func randomSaga(random *rand.Rand) api.Saga {
	w := api.Want{
		Book:     1 + random.Intn(api.MaxBook),
		Customer: random.Intn(api.Customers),
		Deadline: randomTick(random),
		Price:    random.Int63n(api.MaxPrice+1) >> random.Intn(42),
	}
	for i := range w.Units {
		w.Units[i] = random.Intn(api.MaxUnits+1) * random.Intn(2)
	}
	w.Units[random.Intn(3)] = 1 + random.Intn(api.MaxUnits)
	s, _ := saga.New(w, randomTick(random))
	for range random.Intn(len(plan.Forward(w)) + 5) {
		a, _ := saga.Next(s)
		s, _ = saga.Answer(s, a, 1+random.Intn(20)/19)
		if random.Intn(20) == 0 {
			s, _ = saga.Cancel(s)
		}
		if random.Intn(20) == 0 {
			s, _ = saga.Late(s, api.MaxTick)
		}
	}
	return s
}

// randomRecord answers a record that may be.
func randomRecord(random *rand.Rand) api.Record {
	r := api.Record{Kind: 1 + random.Intn(api.RSaga), Now: randomTick(random)}
	switch r.Kind {
	case api.ROp:
		r.Op, r.Answer = randomOp(random), 1+random.Intn(api.Refused)
	case api.RSaga:
		r.Saga = randomSaga(random)
	}
	return r
}

func TestRecordsComeBack(t *testing.T) {
	random := rand.New(rand.NewSource(17))
	for range 20000 {
		checkMay(t, randomRecord(random))
	}
}

func TestBytesThatAreTakenAreMade(t *testing.T) {
	random := rand.New(rand.NewSource(18))
	for range 50000 {
		b := bytesOf(randomRecord(random))
		for range random.Intn(3) {
			b[random.Intn(len(b))] ^= 1 << random.Intn(8)
		}
		was := bytes.Clone(b)
		if r, err := record.Get(b); err == api.OK {
			if again, err := record.Put(r); err != api.OK || !bytes.Equal(again, b) {
				t.Fatalf("%x is taken as %+v, which is %x, %d", b, r, again, err)
			}
		} else if r != (api.Record{}) || err != api.ErrBad {
			t.Fatalf("Get(%x): %+v, %d", b, r, err)
		}
		if !bytes.Equal(b, was) {
			t.Fatalf("%x became %x", was, b)
		}
	}
}

// TestBytesAreTheCallersOwn: what is done with one answer is not seen in another one.
func TestBytesAreTheCallersOwn(t *testing.T) {
	for _, r := range plain() {
		first, _ := record.Put(r)
		clear(first[:cap(first)])
		checkMay(t, r)
	}
}

// TestRecordsFitAFrame (T4): a record's bytes go into one frame of a log, whatever it tells.
func TestRecordsFitAFrame(t *testing.T) {
	w := api.Want{Book: api.MaxBook, Customer: api.Customers - 1, Deadline: api.MaxTick, Units: [3]int{api.MaxUnits, api.MaxUnits, api.MaxUnits}, Price: api.MaxPrice}
	r := api.Record{Kind: api.RSaga, Now: api.MaxTick, Saga: api.Saga{Want: w, Phase: api.PBack, Step: 3, Reason: api.ByCancel, Since: api.MaxTick}}
	checkMay(t, r)
	if b, _ := record.Put(r); len(b) > api.MaxFrame {
		t.Errorf("%d bytes", len(b))
	}
}
