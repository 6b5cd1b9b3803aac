package want_test

import (
	"bytes"
	"encoding/hex"
	"math"
	"math/rand"
	"slices"
	"testing"

	"sojourn/api"
	"sojourn/pack"
	"sojourn/want"
)

// fields answers the bytes that a Writer makes of numbers.
func fields(l ...int64) []byte {
	var w pack.Writer
	for _, v := range l {
		w.Int(v)
	}
	return w.Bytes()
}

// wantFields answers the numbers of w, in the order of its bytes.
func wantFields(w api.Want) []int64 {
	return []int64{int64(w.Book), int64(w.Customer), int64(w.Deadline), int64(w.Units[0]), int64(w.Units[1]), int64(w.Units[2]), w.Price}
}

// opFields answers the numbers of o, in the order of its bytes.
func opFields(o api.Op) []int64 {
	return []int64{int64(o.Kind), int64(o.Book), int64(o.Units), int64(o.Customer), o.Amount}
}

// checkWant fails if May, Put and Get do not all take w, or all refuse it, as may says.
func checkWant(t *testing.T, w api.Want, may bool) {
	t.Helper()
	made := fields(wantFields(w)...)
	if got := want.May(w); got != may {
		t.Errorf("May(%+v): %t", w, got)
	}
	b, putErr := want.Put(w)
	back, getErr := want.Get(made)
	if may {
		if putErr != api.OK || !bytes.Equal(b, made) {
			t.Errorf("Put(%+v): %x, %d, not %x", w, b, putErr, made)
		}
		if getErr != api.OK || back != w {
			t.Errorf("Get(%x): %+v, %d, not %+v", made, back, getErr, w)
		}
		return
	}
	if putErr != api.ErrArg || len(b) != 0 {
		t.Errorf("Put(%+v): %x, %d", w, b, putErr)
	}
	if getErr != api.ErrBad || back != (api.Want{}) {
		t.Errorf("Get(%x), of %+v: %+v, %d", made, w, back, getErr)
	}
}

// checkOp is checkWant of an operation.
func checkOp(t *testing.T, o api.Op, may bool) {
	t.Helper()
	made := fields(opFields(o)...)
	if got := want.MayOp(o); got != may {
		t.Errorf("MayOp(%+v): %t", o, got)
	}
	b, putErr := want.PutOp(o)
	back, getErr := want.GetOp(made)
	if may {
		if putErr != api.OK || !bytes.Equal(b, made) {
			t.Errorf("PutOp(%+v): %x, %d, not %x", o, b, putErr, made)
		}
		if getErr != api.OK || back != o {
			t.Errorf("GetOp(%x): %+v, %d, not %+v", made, back, getErr, o)
		}
		return
	}
	if putErr != api.ErrArg || len(b) != 0 {
		t.Errorf("PutOp(%+v): %x, %d", o, b, putErr)
	}
	if getErr != api.ErrBad || back != (api.Op{}) {
		t.Errorf("GetOp(%x), of %+v: %+v, %d", made, o, back, getErr)
	}
}

// around answers numbers from lo to hi at its edges (true), and others beyond them (false).
func around(lo, hi int64) map[int64]bool {
	l := map[int64]bool{lo: true, hi: true, lo/2 + hi/2: true, lo - 1: false, hi + 1: false}
	for _, v := range []int64{math.MinInt64, math.MaxInt64, -1 << 32, -1 << 31, 1 << 41, lo - 1<<32, hi + 1<<32} {
		l[v] = false
	}
	return l
}

// Promise 3.1: May, Put, Get.

func TestWantInItsRanges(t *testing.T) {
	plain := api.Want{Book: 7, Customer: 2, Deadline: 9, Units: [3]int{1, 2, 3}, Price: 50}
	checkWant(t, plain, true)
	for _, c := range []struct {
		lo, hi int64
		set    func(w *api.Want, v int64)
	}{
		{1, api.MaxBook, func(w *api.Want, v int64) { w.Book = int(v) }},
		{0, api.Customers - 1, func(w *api.Want, v int64) { w.Customer = int(v) }},
		{0, api.MaxTick, func(w *api.Want, v int64) { w.Deadline = int(v) }},
		{0, api.MaxUnits, func(w *api.Want, v int64) { w.Units[0] = int(v) }},
		{0, api.MaxUnits, func(w *api.Want, v int64) { w.Units[1] = int(v) }},
		{0, api.MaxUnits, func(w *api.Want, v int64) { w.Units[2] = int(v) }},
		{0, api.MaxPrice, func(w *api.Want, v int64) { w.Price = v }},
	} {
		for v, may := range around(c.lo, c.hi) {
			w := plain
			c.set(&w, v)
			checkWant(t, w, may)
		}
	}
}

func TestWantNeedsSomeUnits(t *testing.T) {
	for units, may := range map[[3]int]bool{
		{}: false, {1, 0, 0}: true, {0, 1, 0}: true, {0, 0, 1}: true,
		{api.MaxUnits, 0, 0}: true, {0, api.MaxUnits, 0}: true, {0, 0, api.MaxUnits}: true,
		{api.MaxUnits, api.MaxUnits, api.MaxUnits}: true,
		{-1, 0, 0}: false, {-1, 5, 5}: false, {5, -1, 5}: false, {5, 5, -1}: false, {1, -1, 0}: false,
		{api.MaxUnits + 1, 0, 0}: false, {0, 0, api.MaxUnits + 1}: false, {1, api.MaxUnits + 1, 1}: false,
		{math.MinInt, math.MaxInt, 1}: false, {math.MinInt, 0, 0}: false,
	} {
		checkWant(t, api.Want{Book: 1, Units: units}, may)
	}
	checkWant(t, api.Want{}, false)
}

func TestWantAtAllEdgesAtOnce(t *testing.T) {
	checkWant(t, api.Want{Book: 1, Units: [3]int{0, 0, 1}}, true)
	checkWant(t, api.Want{Book: api.MaxBook, Customer: api.Customers - 1, Deadline: api.MaxTick, Units: [3]int{api.MaxUnits, api.MaxUnits, api.MaxUnits}, Price: api.MaxPrice}, true)
}

func TestPutByHand(t *testing.T) {
	for digits, w := range map[string]api.Want{
		"02000000000200": {Book: 1, Units: [3]int{0, 0, 1}},
		"0e041202040664": {Book: 7, Customer: 2, Deadline: 9, Units: [3]int{1, 2, 3}, Price: 50},
		// 64 is the first number of two groups, 1000 is d00f, 2^40 is 2^41 shifted.
		"8001068001d00f00028001":                 {Book: 64, Customer: 3, Deadline: 64, Units: [3]int{1000, 0, 1}, Price: 64},
		"90030680808080804000d00f00808080808040": {Book: 200, Customer: 3, Deadline: 1 << 40, Units: [3]int{0, 1000, 0}, Price: 1 << 40},
	} {
		if b, err := want.Put(w); hex.EncodeToString(b) != digits || err != api.OK {
			t.Errorf("Put(%+v): %x, %d, not %s", w, b, err, digits)
		}
	}
}

// badForms answers, by name, bytes near the good ones that are another form of them, or none.
func badForms(good []byte) map[string][]byte {
	last := len(good) - 1
	return map[string][]byte{
		"nil":             nil,
		"nothing":         {},
		"a byte more":     append(slices.Clone(good), 0),
		"twice":           slices.Concat(good, good),
		"a byte ahead":    append([]byte{0}, good...),
		"a longer number": append(slices.Clone(good[:last]), good[last]|128, 0),
		"no end":          append(slices.Clone(good[:last]), good[last]|128),
		"a longer first":  slices.Concat([]byte{good[0] | 128, 0}, good[1:]),
		"too long a last": slices.Concat(good[:last], bytes.Repeat([]byte{128}, 10), []byte{1}),
		"64 bits, and 1":  slices.Concat(good[:last], bytes.Repeat([]byte{128}, 9), []byte{2}),
		"all bits":        bytes.Repeat([]byte{255}, 40),
		"none but 0":      make([]byte, len(good)),
	}
}

func TestGetOfNoForm(t *testing.T) {
	good, _ := want.Put(api.Want{Book: 7, Customer: 2, Deadline: 9, Units: [3]int{1, 2, 3}, Price: 50})
	for name, b := range badForms(good) {
		if w, err := want.Get(b); err != api.ErrBad || w != (api.Want{}) {
			t.Errorf("%s: Get(%x): %+v, %d", name, b, w, err)
		}
	}
	for n := range good {
		if w, err := want.Get(good[:n]); err != api.ErrBad || w != (api.Want{}) {
			t.Errorf("Get(%x): %+v, %d", good[:n], w, err)
		}
	}
	if o, err := want.GetOp(good); err != api.ErrBad || o != (api.Op{}) {
		t.Errorf("GetOp of a Want: %+v, %d", o, err)
	}
}

// Promise 3.2: MayOp, PutOp, GetOp.

// plainOps answers one operation that may be of each kind.
func plainOps() []api.Op {
	return []api.Op{
		{Kind: api.OpHold, Book: 7, Units: 5},
		{Kind: api.OpConfirm, Book: 7},
		{Kind: api.OpRelease, Book: 7},
		{Kind: api.OpAuth, Book: 7, Customer: 2, Amount: 50},
		{Kind: api.OpCapture, Book: 7},
		{Kind: api.OpVoid, Book: 7},
	}
}

func TestOpKinds(t *testing.T) {
	for _, o := range plainOps() {
		checkOp(t, o, true)
	}
	for _, kind := range []int{0, -1, 7, 8, math.MinInt, math.MaxInt, api.OpHold + 1<<32} {
		for _, o := range plainOps() {
			o.Kind = kind
			checkOp(t, o, false)
		}
	}
	checkOp(t, api.Op{}, false)
}

func TestOpBooks(t *testing.T) {
	for _, o := range plainOps() {
		for book, may := range around(1, api.MaxBook) {
			o.Book = int(book)
			checkOp(t, o, may)
		}
	}
}

func TestOpUnits(t *testing.T) {
	for _, o := range plainOps() {
		hold := o.Kind == api.OpHold
		for units, may := range around(1, api.MaxUnits) {
			o.Units = int(units)
			checkOp(t, o, may && hold || units == 0 && !hold)
		}
		for _, units := range []int{0, 1, 2, -1} {
			o.Units = units
			checkOp(t, o, (units > 0) == hold && units >= 0)
		}
	}
}

func TestOpMoney(t *testing.T) {
	for _, o := range plainOps() {
		auth := o.Kind == api.OpAuth
		o.Customer, o.Amount = 0, 0
		checkOp(t, o, true)
		for customer, may := range around(0, api.Customers-1) {
			o.Customer = int(customer)
			checkOp(t, o, may && auth || customer == 0)
		}
		o.Customer = 0
		for amount, may := range around(0, api.MaxPrice) {
			o.Amount = amount
			checkOp(t, o, may && auth || amount == 0)
		}
		o.Customer, o.Amount = 1, 1
		checkOp(t, o, auth)
	}
}

func TestOpEdges(t *testing.T) {
	checkOp(t, api.Op{Kind: api.OpHold, Book: 1, Units: 1}, true)
	checkOp(t, api.Op{Kind: api.OpHold, Book: api.MaxBook, Units: api.MaxUnits}, true)
	checkOp(t, api.Op{Kind: api.OpAuth, Book: 1}, true)
	checkOp(t, api.Op{Kind: api.OpAuth, Book: api.MaxBook, Customer: api.Customers - 1, Amount: api.MaxPrice}, true)
}

func TestPutOpByHand(t *testing.T) {
	for digits, o := range map[string]api.Op{
		"020e0a0000":                {Kind: api.OpHold, Book: 7, Units: 5},
		"029003d00f0000":            {Kind: api.OpHold, Book: 200, Units: 1000},
		"0402000000":                {Kind: api.OpConfirm, Book: 1},
		"068001000000":              {Kind: api.OpRelease, Book: 64},
		"080e000464":                {Kind: api.OpAuth, Book: 7, Customer: 2, Amount: 50},
		"08020006" + "808080808040": {Kind: api.OpAuth, Book: 1, Customer: 3, Amount: 1 << 40},
		"0a02000000":                {Kind: api.OpCapture, Book: 1},
		"0c02000000":                {Kind: api.OpVoid, Book: 1},
	} {
		if b, err := want.PutOp(o); hex.EncodeToString(b) != digits || err != api.OK {
			t.Errorf("PutOp(%+v): %x, %d, not %s", o, b, err, digits)
		}
	}
}

func TestGetOpOfNoForm(t *testing.T) {
	for _, o := range plainOps() {
		good, _ := want.PutOp(o)
		for name, b := range badForms(good) {
			if o, err := want.GetOp(b); err != api.ErrBad || o != (api.Op{}) {
				t.Errorf("%s: GetOp(%x): %+v, %d", name, b, o, err)
			}
		}
		for n := range good {
			if o, err := want.GetOp(good[:n]); err != api.ErrBad || o != (api.Op{}) {
				t.Errorf("GetOp(%x): %+v, %d", good[:n], o, err)
			}
		}
		if w, err := want.Get(good); err != api.ErrBad || w != (api.Want{}) {
			t.Errorf("Get of an Op: %+v, %d", w, err)
		}
	}
}

// Promise 3.3: each comes back.

// randomWant answers a Want that may be.
func randomWant(random *rand.Rand) api.Want {
	w := api.Want{
		Book:     1 + random.Intn(api.MaxBook),
		Customer: random.Intn(api.Customers),
		Deadline: int(random.Int63n(api.MaxTick+1) >> random.Intn(41)),
		Price:    random.Int63n(api.MaxPrice+1) >> random.Intn(41),
	}
	for i := range w.Units {
		w.Units[i] = random.Intn(api.MaxUnits+1) * random.Intn(2)
	}
	w.Units[random.Intn(3)] = 1 + random.Intn(api.MaxUnits)
	return w
}

// randomOp answers an Op that may be.
func randomOp(random *rand.Rand) api.Op {
	o := api.Op{Kind: 1 + random.Intn(api.OpVoid), Book: 1 + random.Intn(api.MaxBook)}
	switch o.Kind {
	case api.OpHold:
		o.Units = 1 + random.Intn(api.MaxUnits)
	case api.OpAuth:
		o.Customer, o.Amount = random.Intn(api.Customers), random.Int63n(api.MaxPrice+1)>>random.Intn(41)
	}
	return o
}

func TestEachComesBack(t *testing.T) {
	random := rand.New(rand.NewSource(33))
	for range 20000 {
		checkWant(t, randomWant(random), true)
		checkOp(t, randomOp(random), true)
	}
}

func TestBytesThatAreTakenAreMade(t *testing.T) {
	random := rand.New(rand.NewSource(34))
	for range 20000 {
		wantBytes, _ := want.Put(randomWant(random))
		opBytes, _ := want.PutOp(randomOp(random))
		for _, b := range [][]byte{wantBytes, opBytes} {
			for range random.Intn(3) {
				b[random.Intn(len(b))] ^= 1 << random.Intn(8)
			}
			was := bytes.Clone(b)
			if w, err := want.Get(b); err == api.OK {
				if again, err := want.Put(w); err != api.OK || !bytes.Equal(again, b) {
					t.Fatalf("%x is taken as %+v, which is %x, %d", b, w, again, err)
				}
			}
			if o, err := want.GetOp(b); err == api.OK {
				if again, err := want.PutOp(o); err != api.OK || !bytes.Equal(again, b) {
					t.Fatalf("%x is taken as %+v, which is %x, %d", b, o, again, err)
				}
			}
			if !bytes.Equal(b, was) {
				t.Fatalf("%x became %x", was, b)
			}
		}
	}
}

func TestBytesAreTheCallersOwn(t *testing.T) {
	w, o := api.Want{Book: 7, Units: [3]int{1, 2, 3}}, api.Op{Kind: api.OpHold, Book: 7, Units: 5}
	first, _ := want.Put(w)
	firstOp, _ := want.PutOp(o)
	clear(first)
	clear(firstOp)
	second, _ := want.Put(w)
	secondOp, _ := want.PutOp(o)
	if got, err := want.Get(second); got != w || err != api.OK {
		t.Errorf("%+v, %d", got, err)
	}
	if got, err := want.GetOp(secondOp); got != o || err != api.OK {
		t.Errorf("%+v, %d", got, err)
	}
}

func FuzzGet(f *testing.F) {
	random := rand.New(rand.NewSource(35))
	for range 20 {
		b, _ := want.Put(randomWant(random))
		f.Add(b)
		b, _ = want.PutOp(randomOp(random))
		f.Add(b)
	}
	f.Fuzz(func(t *testing.T, b []byte) {
		if w, err := want.Get(b); err == api.OK {
			checkWant(t, w, true)
		} else if err != api.ErrBad || w != (api.Want{}) {
			t.Errorf("Get(%x): %+v, %d", b, w, err)
		}
		if o, err := want.GetOp(b); err == api.OK {
			checkOp(t, o, true)
		} else if err != api.ErrBad || o != (api.Op{}) {
			t.Errorf("GetOp(%x): %+v, %d", b, o, err)
		}
	})
}
