package pack_test

import (
	"bytes"
	"encoding/hex"
	"hash/crc32"
	"math"
	"math/rand"
	"strings"
	"testing"

	"sojourn/api"
	"sojourn/pack"
)

// hexInt answers what Int puts, in hexadecimal digits.
func hexInt(v int64) string {
	var w pack.Writer
	w.Int(v)
	return hex.EncodeToString(w.Bytes())
}

// reader answers a Reader of the bytes that hexadecimal digits name.
func reader(t *testing.T, digits string) *pack.Reader {
	t.Helper()
	b, err := hex.DecodeString(digits)
	if err != nil {
		t.Fatal(err)
	}
	return pack.New(b)
}

// wantWrong fails if r is not wrong for good.
func wantWrong(t *testing.T, r *pack.Reader, what string) {
	t.Helper()
	if n := r.End(); n != api.ErrBad {
		t.Errorf("%s: End %d", what, n)
	}
	if n := r.Byte(); n != 0 {
		t.Errorf("%s: Byte %d behind the fault", what, n)
	}
	if n := r.Int(-5, 5); n != 0 {
		t.Errorf("%s: Int %d behind the fault", what, n)
	}
	if s := r.Text(9); s != "" {
		t.Errorf("%s: Text %q behind the fault", what, s)
	}
	if n := r.End(); n != api.ErrBad {
		t.Errorf("%s: End %d at last", what, n)
	}
}

// Promise 1.1: a Writer.

func TestByteKeepsLowestBits(t *testing.T) {
	var w pack.Writer
	for _, v := range []int{0, 1, 255, 256, 0x1FF, -1, -256, math.MaxInt, math.MinInt} {
		w.Byte(v)
	}
	if got := hex.EncodeToString(w.Bytes()); got != "0001ff00ffff00ff00" {
		t.Fatal(got)
	}
}

func TestIntIsShortGroups(t *testing.T) {
	for _, c := range []struct {
		v    int64
		want string
	}{
		{0, "00"}, {1, "02"}, {2, "04"}, {-1, "01"}, {-2, "03"}, {-3, "05"},
		{63, "7e"}, {-64, "7f"}, {64, "8001"}, {-65, "8101"}, {150, "ac02"},
		{8191, "fe7f"}, {-8192, "ff7f"}, {8192, "808001"}, {-8193, "818001"},
		{1 << 62, "80808080808080808001"}, {1<<62 - 1, "feffffffffffffff7f"},
		{math.MaxInt64, "feffffffffffffffff01"}, {math.MinInt64, "ffffffffffffffffff01"},
	} {
		if got := hexInt(c.v); got != c.want {
			t.Errorf("Int(%d): %s, not %s", c.v, got, c.want)
		}
	}
}

func TestTextIsLengthAndBytes(t *testing.T) {
	for _, s := range []string{"", "a", "ab", "\x00\xff", strings.Repeat("x", 63), strings.Repeat("y", 64), strings.Repeat("z", 9000)} {
		var w pack.Writer
		w.Text(s)
		if got := hex.EncodeToString(w.Bytes()); got != hexInt(int64(len(s)))+hex.EncodeToString([]byte(s)) {
			t.Errorf("a text of %d bytes: %.20s", len(s), got)
		}
	}
}

func TestWriterKeepsOrder(t *testing.T) {
	var w pack.Writer
	if n := len(w.Bytes()); n != 0 {
		t.Fatalf("%d bytes at first", n)
	}
	w.Text("ab")
	w.Byte(7)
	w.Int(-3)
	w.Byte(0)
	if got := hex.EncodeToString(w.Bytes()); got != "0461620705"+"00" {
		t.Fatal(got)
	}
}

func TestBytesAreACopy(t *testing.T) {
	var w pack.Writer
	w.Text("abc")
	b := w.Bytes()
	b[1] = 'x'
	_ = append(b, 'y')
	w.Byte('d')
	if got := string(w.Bytes()); got != "\x06abcd" {
		t.Errorf("what was answered changed the Writer: %q", got)
	}
	if string(b) != "\x06xbc" {
		t.Errorf("the Writer changed what was answered: %q", b)
	}
}

func TestCopiesOfAWriterGoTheirOwnWays(t *testing.T) {
	for n := range 40 { // whatever room the first has left
		var first pack.Writer
		start := strings.Repeat("s", n)
		for range n {
			first.Byte('s')
		}
		second := first
		first.Byte('1')
		second.Byte('2')
		third := second
		second.Byte('2')
		third.Byte('3')
		if a, b, c := string(first.Bytes()), string(second.Bytes()), string(third.Bytes()); a != start+"1" || b != start+"22" || c != start+"23" {
			t.Fatalf("behind %d bytes: %q, %q, %q", n, a, b, c)
		}
	}
}

func TestNilWriterDoesNothing(t *testing.T) {
	var w *pack.Writer
	w.Byte(1)
	w.Int(1)
	w.Text("a")
	if n := len(w.Bytes()); n != 0 {
		t.Fatalf("%d bytes", n)
	}
}

// Promise 1.2: a Reader.

func TestReaderTakesInOrder(t *testing.T) {
	r := reader(t, "04616207ff0500")
	if s := r.Text(2); s != "ab" {
		t.Fatalf("Text %q", s)
	}
	if a, b := r.Byte(), r.Byte(); a != 7 || b != 255 {
		t.Fatalf("Byte %d, %d", a, b)
	}
	if n := r.Int(-3, -3); n != -3 {
		t.Fatalf("Int %d", n)
	}
	if n := r.End(); n != api.ErrRange {
		t.Fatalf("End %d with a byte left", n)
	}
	if n := r.Byte(); n != 0 || r.End() != api.OK {
		t.Fatalf("Byte %d, End %d", n, r.End())
	}
}

func TestReaderOfNothing(t *testing.T) {
	for _, b := range [][]byte{nil, {}} {
		if n := pack.New(b).End(); n != api.OK {
			t.Errorf("End %d", n)
		}
		r := pack.New(b)
		r.Byte()
		wantWrong(t, r, "a byte of nothing")
		r = pack.New(b)
		r.Int(math.MinInt64, math.MaxInt64)
		wantWrong(t, r, "a number of nothing")
		r = pack.New(b)
		r.Text(5)
		wantWrong(t, r, "a text of nothing")
	}
}

func TestIntFromLoToHi(t *testing.T) {
	for _, c := range []struct {
		v, lo, hi int64
		ok        bool
	}{
		{5, 5, 5, true}, {5, 4, 5, true}, {5, 5, 6, true}, {5, 6, 9, false}, {5, 0, 4, false},
		{-5, -5, -5, true}, {-5, -4, 9, false}, {-5, -9, -6, false},
		{5, 6, 4, false}, {5, 5, 4, false}, {0, 1, -1, false},
		{0, 0, 0, true}, {0, 1, 5, false},
		{math.MinInt64, math.MinInt64, math.MaxInt64, true}, {math.MaxInt64, math.MinInt64, math.MaxInt64, true},
		{math.MinInt64, math.MinInt64 + 1, math.MaxInt64, false}, {math.MaxInt64, math.MinInt64, math.MaxInt64 - 1, false},
	} {
		var w pack.Writer
		w.Int(c.v)
		w.Byte(9)
		r := pack.New(w.Bytes())
		got := r.Int(c.lo, c.hi)
		if c.ok && (got != c.v || r.Byte() != 9 || r.End() != api.OK) {
			t.Errorf("%d from %d to %d: %d", c.v, c.lo, c.hi, got)
		}
		if !c.ok {
			if got != 0 {
				t.Errorf("%d from %d to %d: %d", c.v, c.lo, c.hi, got)
			}
			wantWrong(t, r, "out of its range")
		}
	}
}

func TestIntThatIsNone(t *testing.T) {
	for _, c := range []struct{ digits, what string }{
		{"80", "too few bytes"},
		{"ffff", "too few bytes"},
		{"ffffffffffffffffff", "too few bytes: nine"},
		{"8000", "one that is shorter"},
		{"8100", "one that is shorter"},
		{"808000", "one that is shorter"},
		{"ff8000", "one that is shorter"},
		{"80808080808080808000", "ten bytes, one that is shorter"},
		{"ffffffffffffffffff02", "above 64 bits"},
		{"80808080808080808002", "above 64 bits"},
		{"ffffffffffffffffff03", "above 64 bits"},
		{"ffffffffffffffffff7f", "above 64 bits"},
		{"8080808080808080808001", "eleven bytes"},
		{"ffffffffffffffffff8100", "eleven bytes"},
		{"ffffffffffffffffffff01", "eleven bytes"},
		{"8080808080808080808000", "eleven bytes of 0"},
	} {
		r := reader(t, c.digits)
		if n := r.Int(math.MinInt64, math.MaxInt64); n != 0 {
			t.Errorf("%s: %d", c.digits, n)
		}
		wantWrong(t, r, c.digits+", "+c.what)
	}
}

func TestTextOfAtMost(t *testing.T) {
	for _, c := range []struct {
		digits string
		most   int
		want   string
		ok     bool
	}{
		{"046162", 2, "ab", true}, {"046162", 3, "ab", true}, {"046162", math.MaxInt, "ab", true},
		{"046162", 1, "", false}, {"046162", 0, "", false}, {"046162", -1, "", false},
		{"00", 0, "", true}, {"00", -5, "", true}, {"00", math.MinInt, "", true}, {"00", 7, "", true},
		{"0461", 9, "", false}, {"02", 9, "", false},
		{"01", 9, "", false}, {"03616263", 9, "", false}, // lengths below 0
		{"8000", 9, "", false}, {"80", 9, "", false},
		{"feffffffffffffffff0161", math.MaxInt, "", false}, {"ffffffffffffffffff0161", math.MaxInt, "", false},
	} {
		r := reader(t, c.digits)
		got := r.Text(c.most)
		if got != c.want {
			t.Errorf("%s, at most %d: %q", c.digits, c.most, got)
		}
		if n := r.End(); c.ok && n != api.OK {
			t.Errorf("%s, at most %d: End %d", c.digits, c.most, n)
		}
		if !c.ok {
			wantWrong(t, r, c.digits)
		}
	}
}

func TestWrongWithBytesLeft(t *testing.T) {
	r := reader(t, "0a0102030405")
	r.Int(0, 4)
	wantWrong(t, r, "wrong with bytes left")
	r = reader(t, "066162")
	r.Text(9)
	wantWrong(t, r, "a text cut short")
}

func TestReaderKeepsNothingOfItsBytes(t *testing.T) {
	b := []byte("\x04abc")
	r := pack.New(b)
	for i := range b {
		b[i] = 0xFF
	}
	if s, n := r.Text(2), r.Byte(); s != "ab" || n != 'c' || r.End() != api.OK {
		t.Errorf("%q, %d, %d", s, n, r.End())
	}
	if string(b) != "\xff\xff\xff\xff" {
		t.Errorf("the Reader changed its bytes: %x", b)
	}
}

func TestNilReaderIsWrong(t *testing.T) {
	wantWrong(t, nil, "a nil Reader")
}

// Promise 1.3: Sum.

func TestSumOfKnownTexts(t *testing.T) {
	for s, want := range map[string]uint32{
		"": 0, "123456789": 0xCBF43926, "a": 0xE8B7BE43, "\x00": 0xD202EF8D, "\xff": 0xFF000000, "\x00\x00\x00\x00": 0x2144DF1C,
	} {
		if got := pack.Sum([]byte(s)); got != want {
			t.Errorf("Sum(%q): %08X, not %08X", s, got, want)
		}
	}
}

func TestSumIsAsInZip(t *testing.T) {
	if pack.Sum(nil) != 0 {
		t.Error("Sum of nothing")
	}
	random := rand.New(rand.NewSource(13))
	for n := range 600 {
		b := make([]byte, n)
		random.Read(b)
		was := bytes.Clone(b)
		if got, want := pack.Sum(b), crc32.ChecksumIEEE(b); got != want {
			t.Fatalf("Sum(%x): %08X, not %08X", b, got, want)
		}
		if !bytes.Equal(b, was) {
			t.Fatal("Sum changed its bytes")
		}
	}
	for v := range 256 {
		b := []byte{byte(v)}
		if got, want := pack.Sum(b), crc32.ChecksumIEEE(b); got != want {
			t.Errorf("Sum(%x): %08X, not %08X", b, got, want)
		}
	}
}

// Promise 1.4: what was written is read.

// A value is a thing that a Writer puts: a byte, a number or a text.
type value struct {
	kind, b int
	n       int64
	s       string
}

func randomValue(random *rand.Rand) value {
	switch kind := random.Intn(3); kind {
	case 0:
		return value{kind: kind, b: random.Intn(256)}
	case 1:
		return value{kind: kind, n: int64(random.Uint64()) >> random.Intn(64)}
	default:
		b := make([]byte, random.Intn(200))
		random.Read(b)
		return value{kind: kind, s: string(b)}
	}
}

func put(w *pack.Writer, v value) {
	switch v.kind {
	case 0:
		w.Byte(v.b)
	case 1:
		w.Int(v.n)
	default:
		w.Text(v.s)
	}
}

func take(r *pack.Reader, kind int) value {
	switch kind {
	case 0:
		return value{kind: kind, b: r.Byte()}
	case 1:
		return value{kind: kind, n: r.Int(math.MinInt64, math.MaxInt64)}
	default:
		return value{kind: kind, s: r.Text(200)}
	}
}

func TestWrittenIsRead(t *testing.T) {
	random := rand.New(rand.NewSource(14))
	for range 500 {
		var w pack.Writer
		var all []value
		for range random.Intn(30) {
			v := randomValue(random)
			all = append(all, v)
			put(&w, v)
		}
		r := pack.New(w.Bytes())
		for i, v := range all {
			if got := take(r, v.kind); got != v {
				t.Fatalf("the %dth of %#v: %#v", i, all, got)
			}
		}
		if n := r.End(); n != api.OK {
			t.Fatalf("End %d behind %#v", n, all)
		}
	}
}

func TestNumbersNearEveryPowerAreRead(t *testing.T) {
	for shift := range 64 {
		for d := int64(-2); d <= 2; d++ {
			for _, v := range []int64{1<<shift + d, -(1 << shift) + d} {
				var w pack.Writer
				w.Int(v)
				r := pack.New(w.Bytes())
				if got := r.Int(v, v); got != v || r.End() != api.OK {
					t.Fatalf("%d: %d, End %d", v, got, r.End())
				}
			}
		}
	}
}

func TestEachNumberHasOneForm(t *testing.T) {
	for i := range 1 << 16 {
		b := []byte{byte(i), byte(i >> 8)}
		r := pack.New(b)
		v := r.Int(math.MinInt64, math.MaxInt64)
		if r.End() != api.OK {
			continue
		}
		var w pack.Writer
		w.Int(v)
		if !bytes.Equal(w.Bytes(), b) {
			t.Fatalf("%x is read as %d, which is %x", b, v, w.Bytes())
		}
	}
}

func TestAnyBytesAreReadToAnEnd(t *testing.T) {
	random := rand.New(rand.NewSource(15))
	for range 2000 {
		b := make([]byte, random.Intn(40))
		random.Read(b)
		r := pack.New(b)
		for range 50 {
			take(r, random.Intn(3))
		}
		wantWrong(t, r, "more than there is")
	}
}
