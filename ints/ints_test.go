package ints_test

import (
	"bytes"
	"math"
	"testing"

	"sojourn/ints"
	"sojourn/pack"
)

// numbers answers numbers at the edges of their groups, and of all numbers, both above and below 0.
func numbers() []int64 {
	l := []int64{0, -1, math.MinInt64, math.MaxInt64}
	for bits := range 63 {
		v := int64(1) << bits
		l = append(l, v-1, v, v+1, -v, -v-1)
	}
	return l
}

// byPack answers the bytes of numbers, as chapter 1 has them.
func byPack(l ...int64) []byte {
	var w pack.Writer
	for _, v := range l {
		w.Int(v)
	}
	return w.Bytes()
}

func TestAppendIsChapter1s(t *testing.T) {
	for _, v := range numbers() {
		if got := ints.Append(nil, v); !bytes.Equal(got, byPack(v)) {
			t.Errorf("Append(%d): %x, not %x", v, got, byPack(v))
		}
		if got := ints.Append(nil, int(v)); !bytes.Equal(got, byPack(v)) {
			t.Errorf("Append(%d) as int: %x, not %x", v, got, byPack(v))
		}
	}
	if got := ints.Append(nil, numbers()...); !bytes.Equal(got, byPack(numbers()...)) {
		t.Errorf("Append of all: %x", got)
	}
}

func TestAppendGoesBehind(t *testing.T) {
	if got := ints.Append[int]([]byte("ab")); !bytes.Equal(got, []byte("ab")) {
		t.Errorf("Append of none: %x", got)
	}
	if got := ints.Append([]byte("ab"), 1, -1, 64); !bytes.Equal(got, []byte("ab\x02\x01\x80\x01")) {
		t.Errorf("Append: %x", got)
	}
}

func TestTakeTakesAppendBack(t *testing.T) {
	b := ints.Append(nil, numbers()...)
	was := bytes.Clone(b)
	rest := b
	for _, v := range numbers() {
		var got int64
		if got, rest = ints.Take(rest); got != v {
			t.Fatalf("Take: %d, not %d", got, v)
		}
	}
	if len(rest) != 0 || !bytes.Equal(b, was) {
		t.Errorf("%x are left of %x, which was %x", rest, b, was)
	}
}

func TestTakeOfNone(t *testing.T) {
	for _, b := range [][]byte{nil, {}, {128}, {255, 255}, bytes.Repeat([]byte{255}, 100)} {
		if v, rest := ints.Take(b); v != 0 || rest != nil {
			t.Errorf("Take(%x): %d, %x", b, v, rest)
		}
	}
}

// TestTakeOfLongerNumbers: they end, and do no harm, however long they are.
func TestTakeOfLongerNumbers(t *testing.T) {
	for _, n := range []int{1, 9, 10, 1000} {
		b := append(bytes.Repeat([]byte{128}, n), 0, 7)
		if v, rest := ints.Take(b); v != 0 || !bytes.Equal(rest, []byte{7}) {
			t.Errorf("Take(%x): %d, %x", b, v, rest)
		}
	}
}
