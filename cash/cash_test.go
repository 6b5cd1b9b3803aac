package cash_test

import (
	"math"
	"math/big"
	"math/rand"
	"slices"
	"testing"

	"sojourn/api"
	"sojourn/cash"
)

// An operation is a call of two numbers, and what it is with numbers that have no bound.
type operation struct {
	name  string
	call  func(a, b int64) (int64, int)
	exact func(z, a, b *big.Int) *big.Int
}

var operations = []operation{
	{"Add", cash.Add, (*big.Int).Add},
	{"Sub", cash.Sub, (*big.Int).Sub},
	{"Mul", cash.Mul, (*big.Int).Mul},
}

// compare fails if an operation does not answer what it is with numbers that have no bound.
func compare(t *testing.T, o operation, a, b int64) {
	t.Helper()
	var want int64
	wantErr := api.ErrRange
	if exact := o.exact(new(big.Int), big.NewInt(a), big.NewInt(b)); exact.IsInt64() {
		want, wantErr = exact.Int64(), api.OK
	}
	if got, err := o.call(a, b); got != want || err != wantErr {
		t.Fatalf("%s(%d, %d): %d, %d, not %d, %d", o.name, a, b, got, err, want, wantErr)
	}
}

// edges answers numbers at, and near, where something may overflow.
func edges() []int64 {
	l := []int64{0, math.MaxInt64, math.MinInt64, math.MaxInt64 / 2, math.MinInt64 / 2, math.MaxInt64 / 3, 3037000499, 3037000500, -3037000499, -3037000500}
	for shift := range 64 {
		for d := int64(-2); d <= 2; d++ {
			l = append(l, 1<<shift+d, -(1<<shift)+d)
		}
	}
	slices.Sort(l)
	return slices.Compact(l)
}

// Promise 2.1: Add, Sub, Mul, Total.

func TestNumbersByHand(t *testing.T) {
	const most, least = math.MaxInt64, math.MinInt64
	for _, c := range []struct {
		name      string
		call      func(a, b int64) (int64, int)
		a, b      int64
		want, err int64
	}{
		{"Add", cash.Add, 2, 3, 5, 0}, {"Add", cash.Add, -2, -3, -5, 0}, {"Add", cash.Add, 2, -3, -1, 0},
		{"Add", cash.Add, most - 1, 1, most, 0}, {"Add", cash.Add, most, 1, 0, api.ErrRange}, {"Add", cash.Add, 1, most, 0, api.ErrRange}, {"Add", cash.Add, most, most, 0, api.ErrRange},
		{"Add", cash.Add, least + 1, -1, least, 0}, {"Add", cash.Add, least, -1, 0, api.ErrRange}, {"Add", cash.Add, least, least, 0, api.ErrRange},
		{"Add", cash.Add, most, least, -1, 0}, {"Add", cash.Add, least, most, -1, 0}, {"Add", cash.Add, least, 0, least, 0}, {"Add", cash.Add, 0, most, most, 0},
		{"Sub", cash.Sub, 2, 3, -1, 0}, {"Sub", cash.Sub, -2, -3, 1, 0}, {"Sub", cash.Sub, 2, -3, 5, 0},
		{"Sub", cash.Sub, least + 1, 1, least, 0}, {"Sub", cash.Sub, least, 1, 0, api.ErrRange}, {"Sub", cash.Sub, most, -1, 0, api.ErrRange}, {"Sub", cash.Sub, most - 1, -1, most, 0},
		{"Sub", cash.Sub, 0, least, 0, api.ErrRange}, {"Sub", cash.Sub, -1, least, most, 0}, {"Sub", cash.Sub, 0, most, -most, 0}, {"Sub", cash.Sub, -2, most, 0, api.ErrRange},
		{"Sub", cash.Sub, least, least, 0, 0}, {"Sub", cash.Sub, most, most, 0, 0}, {"Sub", cash.Sub, most, least, 0, api.ErrRange}, {"Sub", cash.Sub, least, most, 0, api.ErrRange},
		{"Mul", cash.Mul, 2, 3, 6, 0}, {"Mul", cash.Mul, -2, 3, -6, 0}, {"Mul", cash.Mul, 2, -3, -6, 0}, {"Mul", cash.Mul, -2, -3, 6, 0},
		{"Mul", cash.Mul, 0, least, 0, 0}, {"Mul", cash.Mul, most, 0, 0, 0}, {"Mul", cash.Mul, 1, least, least, 0}, {"Mul", cash.Mul, most, -1, -most, 0},
		{"Mul", cash.Mul, least, -1, 0, api.ErrRange}, {"Mul", cash.Mul, -1, least, 0, api.ErrRange}, {"Mul", cash.Mul, least, least, 0, api.ErrRange}, {"Mul", cash.Mul, most, most, 0, api.ErrRange},
		{"Mul", cash.Mul, 1 << 32, 1 << 31, 0, api.ErrRange}, {"Mul", cash.Mul, -1 << 32, 1 << 31, least, 0}, {"Mul", cash.Mul, 1 << 32, -1 << 31, least, 0}, {"Mul", cash.Mul, -1 << 32, -1 << 31, 0, api.ErrRange},
		{"Mul", cash.Mul, 1 << 32, 1 << 32, 0, api.ErrRange}, {"Mul", cash.Mul, least / 2, 2, least, 0}, {"Mul", cash.Mul, least/2 - 1, 2, 0, api.ErrRange}, {"Mul", cash.Mul, most/2 + 1, 2, 0, api.ErrRange},
	} {
		if got, err := c.call(c.a, c.b); got != c.want || int64(err) != c.err {
			t.Errorf("%s(%d, %d): %d, %d, not %d, %d", c.name, c.a, c.b, got, err, c.want, c.err)
		}
	}
}

func TestNumbersAtTheEdges(t *testing.T) {
	l := edges()
	for _, o := range operations {
		for _, a := range l {
			for _, b := range l {
				compare(t, o, a, b)
			}
		}
	}
}

func TestNumbersOfAllSizes(t *testing.T) {
	random := rand.New(rand.NewSource(21))
	for range 100000 {
		a, b := int64(random.Uint64())>>random.Intn(64), int64(random.Uint64())>>random.Intn(64)
		for _, o := range operations {
			compare(t, o, a, b)
		}
	}
}

func TestTotal(t *testing.T) {
	const most, least = math.MaxInt64, math.MinInt64
	for _, c := range []struct {
		l    []int64
		want int64
		err  int
	}{
		{nil, 0, api.OK}, {[]int64{}, 0, api.OK}, {[]int64{-7}, -7, api.OK}, {[]int64{1, 2, 3}, 6, api.OK},
		{[]int64{least}, least, api.OK}, {[]int64{most}, most, api.OK},
		{[]int64{most, least, 1}, 0, api.OK},
		{[]int64{most, 1}, 0, api.ErrRange}, {[]int64{least, -1}, 0, api.ErrRange},
		{[]int64{5, most}, 0, api.ErrRange},
		// What follows takes no overflow back.
		{[]int64{most, 1, -1}, 0, api.ErrRange}, {[]int64{1, most, -1}, 0, api.ErrRange}, {[]int64{least, -1, 1, 7}, 0, api.ErrRange},
		// One by one, from the first on, there is none.
		{[]int64{most, -1, 1}, most, api.OK}, {[]int64{-1, 1, most}, most, api.OK}, {[]int64{-1, most, 1}, most, api.OK},
		// By 2^64 too little, it would seem to be a number.
		{[]int64{least, least, 5}, 0, api.ErrRange}, {[]int64{most, most, 7}, 0, api.ErrRange},
	} {
		was := slices.Clone(c.l)
		if got, err := cash.Total(c.l); got != c.want || err != c.err {
			t.Errorf("Total(%d): %d, %d, not %d, %d", c.l, got, err, c.want, c.err)
		}
		if !slices.Equal(c.l, was) {
			t.Errorf("Total changed %d to %d", was, c.l)
		}
	}
}

func TestTotalIsAddOneByOne(t *testing.T) {
	random := rand.New(rand.NewSource(22))
	for range 5000 {
		l := make([]int64, random.Intn(8))
		var want int64
		wantErr := api.OK
		for i := range l {
			l[i] = int64(random.Uint64()) >> random.Intn(8)
			if wantErr == api.OK {
				want, wantErr = cash.Add(want, l[i])
			}
		}
		if got, err := cash.Total(l); got != want || err != wantErr {
			t.Fatalf("Total(%d): %d, %d, not %d, %d", l, got, err, want, wantErr)
		}
	}
}

// Promise 2.2: Share.

// repeated answers a list of n numbers v.
func repeated(v int64, n int) []int64 {
	return slices.Repeat([]int64{v}, n)
}

func TestShareByHand(t *testing.T) {
	for _, c := range []struct {
		all         int64
		parts, want []int64
	}{
		{10, []int64{1, 1, 1}, []int64{4, 3, 3}},
		{11, []int64{1, 1, 1}, []int64{4, 4, 3}},
		{12, []int64{1, 1, 1}, []int64{4, 4, 4}},
		{7, []int64{1}, []int64{7}},
		{0, []int64{1, 2}, []int64{0, 0}},
		{0, []int64{1000}, []int64{0}},
		{1, []int64{1, 1000}, []int64{1, 0}},
		{1, []int64{0, 0, 1, 1}, []int64{0, 0, 1, 0}},
		{5, []int64{0, 3, 0, 3, 0}, []int64{0, 3, 0, 2, 0}},
		{10, []int64{1, 2, 3, 4}, []int64{1, 2, 3, 4}},
		{11, []int64{1, 2, 3, 4}, []int64{2, 2, 3, 4}},
		{19, []int64{4, 3, 2, 1}, []int64{8, 6, 4, 1}},
		{100, []int64{1, 0, 999}, []int64{1, 0, 99}},
		{api.MaxPrice, []int64{1000}, []int64{api.MaxPrice}},
		{api.MaxPrice, []int64{0, 1000, 0}, []int64{0, api.MaxPrice, 0}},
		{api.MaxPrice, []int64{1000, 1000}, []int64{api.MaxPrice / 2, api.MaxPrice / 2}},
		{api.MaxPrice - 1, []int64{7, 7}, []int64{api.MaxPrice / 2, api.MaxPrice/2 - 1}},
		{api.MaxPrice, []int64{1, 1, 1}, []int64{366503875926, 366503875925, 366503875925}},
		{99, repeated(1, 100), append(repeated(1, 99), 0)},
		{1000, repeated(1000, 100), repeated(10, 100)},
		{50, append(repeated(0, 99), 3), append(repeated(0, 99), 50)},
	} {
		got, err := cash.Share(c.all, c.parts)
		if err != api.OK || !slices.Equal(got, c.want) {
			t.Errorf("Share(%d, %d): %d, %d, not %d", c.all, c.parts, got, err, c.want)
		}
	}
}

func TestShareOfWhatMayNotBe(t *testing.T) {
	for _, c := range []struct {
		all   int64
		parts []int64
	}{
		{10, nil}, {10, []int64{}}, {0, nil},
		{10, []int64{0}}, {10, []int64{0, 0, 0}}, {0, []int64{0}}, {10, repeated(0, 100)},
		{-1, []int64{1}}, {math.MinInt64, []int64{1}},
		{api.MaxPrice + 1, []int64{1}}, {math.MaxInt64, []int64{1}},
		{10, []int64{1001}}, {10, []int64{1, 1, 1001}}, {10, []int64{math.MaxInt64}}, {10, []int64{math.MaxInt64, math.MaxInt64, 3}},
		{10, []int64{-1}}, {10, []int64{5, -1}}, {10, []int64{-1, 5}}, {10, []int64{5, math.MinInt64}}, {10, []int64{-1, -1}},
		{10, repeated(1, 101)}, {10, append(repeated(0, 100), 1)}, {10, append([]int64{1}, repeated(0, 100)...)}, {10, repeated(1, 100000)},
	} {
		if got, err := cash.Share(c.all, c.parts); err != api.ErrArg || got != nil {
			t.Errorf("Share(%d, %.5d of %d): %d, %d", c.all, c.parts[:min(5, len(c.parts))], len(c.parts), got, err)
		}
	}
}

func TestShareKeepsAndChangesNothing(t *testing.T) {
	parts := []int64{3, 0, 5}
	first, _ := cash.Share(20, parts)
	if !slices.Equal(parts, []int64{3, 0, 5}) {
		t.Fatalf("the parts are %d now", parts)
	}
	second, _ := cash.Share(20, parts)
	parts[0] = 1
	first[1] = 99
	if !slices.Equal(first, []int64{8, 99, 12}) || !slices.Equal(second, []int64{8, 0, 12}) || parts[1] != 0 {
		t.Fatalf("%d, %d, %d", first, second, parts)
	}
}

// randomParts answers parts that may be.
func randomParts(random *rand.Rand) []int64 {
	parts := make([]int64, 1+random.Intn(100))
	most := []int{2, 10, api.MaxUnits + 1}[random.Intn(3)]
	for i := range parts {
		parts[i] = int64(random.Intn(most))
	}
	parts[random.Intn(len(parts))] = int64(1 + random.Intn(api.MaxUnits))
	return parts
}

func TestShareIsRoundedDownAndOneEach(t *testing.T) {
	random := rand.New(rand.NewSource(23))
	for range 5000 {
		all, parts := random.Int63n(api.MaxPrice+1)>>random.Intn(41), randomParts(random)
		want := make([]int64, len(parts))
		total := big.NewInt(0)
		for _, part := range parts {
			total.Add(total, big.NewInt(part))
		}
		left := all
		for i, part := range parts {
			exact := new(big.Int).Mul(big.NewInt(all), big.NewInt(part))
			want[i] = exact.Div(exact, total).Int64()
			left -= want[i]
		}
		for i := 0; left > 0; i++ {
			if parts[i] > 0 {
				want[i]++
				left--
			}
		}
		if got, err := cash.Share(all, parts); err != api.OK || !slices.Equal(got, want) {
			t.Fatalf("Share(%d, %d): %d, %d, not %d", all, parts, got, err, want)
		}
	}
}

// Promise 2.3, T2: shares are all of it, each near its exact part, none below 0.

func TestSharesAreAllAndNearTheirParts(t *testing.T) {
	random := rand.New(rand.NewSource(24))
	for range 5000 {
		all, parts := random.Int63n(api.MaxPrice+1)>>random.Intn(41), randomParts(random)
		shares, err := cash.Share(all, parts)
		if err != api.OK || len(shares) != len(parts) {
			t.Fatalf("Share(%d, %d): %d, %d", all, parts, shares, err)
		}
		if together, err := cash.Total(shares); together != all || err != api.OK {
			t.Fatalf("Share(%d, %d): %d is %d together", all, parts, shares, together)
		}
		total, _ := cash.Total(parts)
		for i, share := range shares {
			off, err := cash.Sub(share*total, all*parts[i]) // from the exact part, total times
			if err != api.OK || off > total || off < -total || share < 0 {
				t.Fatalf("Share(%d, %d): the share %d is %d", all, parts, i, share)
			}
			if parts[i] == 0 && share != 0 {
				t.Fatalf("Share(%d, %d): %d for no part", all, parts, share)
			}
		}
	}
}

func TestMovedMoneyStaysTogether(t *testing.T) {
	random := rand.New(rand.NewSource(25))
	for range 5000 {
		a, b, amount := int64(random.Uint64())>>random.Intn(64), int64(random.Uint64())>>random.Intn(64), int64(random.Uint64())>>random.Intn(64)
		before := new(big.Int).Add(big.NewInt(a), big.NewInt(b))
		less, err1 := cash.Sub(a, amount)
		more, err2 := cash.Add(b, amount)
		if err1 != api.OK || err2 != api.OK {
			continue
		}
		if after := new(big.Int).Add(big.NewInt(less), big.NewInt(more)); after.Cmp(before) != 0 {
			t.Fatalf("%d moved from %d to %d: %d, %d", amount, a, b, less, more)
		}
	}
}
