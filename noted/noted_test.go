package noted_test

import (
	"bytes"
	"testing"

	"sojourn/api"
	"sojourn/noted"
)

// asked answers a function that answers that, and one that tells how often it was called.
func asked(answer int) (do, calls func() int) {
	count := 0
	return func() int { count++; return answer }, func() int { return count }
}

// checkOnce fails if something else is answered to o, or do is not called just where that is new.
func checkOnce(t *testing.T, a *noted.Answers, o api.Op, does, want int, wantNew bool) {
	t.Helper()
	do, calls := asked(does)
	wantCalls := 0
	if wantNew {
		wantCalls = 1
	}
	got, isNew := a.Once(o, do)
	if got != want || isNew != wantNew || calls() != wantCalls {
		t.Errorf("Once(%+v): %d, %v, %d calls, not %d, %v", o, got, isNew, calls(), want, wantNew)
	}
}

func TestOnceIsOnce(t *testing.T) {
	var a noted.Answers
	hold := api.Op{Kind: api.OpHold, Book: 7, Units: 2}
	checkOnce(t, &a, hold, api.Refused, api.Refused, true)
	checkOnce(t, &a, hold, api.Done, api.Refused, false)
	hold.Units = 3
	checkOnce(t, &a, hold, api.Done, api.Refused, false)
	checkOnce(t, &a, api.Op{Kind: api.OpVoid, Book: 7}, api.Done, api.Done, true)
	checkOnce(t, &a, api.Op{Kind: api.OpVoid, Book: 8}, api.Refused, api.Refused, true)
	if a.Len() != 3 {
		t.Errorf("Len: %d", a.Len())
	}
}

// TestWhatMayNotBeIsNotNoted: should it be handed in after all, it is told, but never as new.
func TestWhatMayNotBeIsNotNoted(t *testing.T) {
	var a noted.Answers
	for _, o := range []api.Op{{}, {Kind: api.OpVoid}, {Kind: api.OpHold, Book: 1}, {Kind: api.OpVoid, Book: api.MaxBook + 1}} {
		do, _ := asked(api.Done)
		if answer, isNew := a.Once(o, do); answer != api.Done || isNew || a.Len() != 0 {
			t.Errorf("Once(%+v): %d, %v, of %d", o, answer, isNew, a.Len())
		}
	}
}

func TestAppend(t *testing.T) {
	var a noted.Answers
	if got := a.Append([]byte("ab")); !bytes.Equal(got, []byte("ab\x00")) {
		t.Errorf("Append of none: %x", got)
	}
	for _, o := range []api.Op{{Kind: api.OpVoid, Book: 64}, {Kind: api.OpAuth, Book: 64}, {Kind: api.OpHold, Book: 63, Units: 1}} {
		do, _ := asked(api.Refused)
		a.Once(o, do)
	}
	want := []byte{0x06, 0x7e, 0x02, 0x04, 0x80, 0x01, 0x08, 0x04, 0x80, 0x01, 0x0c, 0x04}
	if got := a.Append(nil); !bytes.Equal(got, want) {
		t.Errorf("Append: %x, not %x", got, want)
	}
}

// TestAppendOfManyAnswers: at 64 answers their number is of two bytes.
func TestAppendOfManyAnswers(t *testing.T) {
	var a noted.Answers
	for book := 1; book <= 64; book++ {
		before := a.Append(nil)
		checkOnce(t, &a, api.Op{Kind: api.OpVoid, Book: book}, api.Done, api.Done, true)
		if got := a.Append(nil); bytes.Equal(got, before) {
			t.Errorf("%d answers: %x", book, got)
		}
	}
	if got := a.Append(nil); !bytes.HasPrefix(got, []byte{0x80, 0x01, 0x02, 0x0c, 0x02}) {
		t.Errorf("Append of 64: %x", got)
	}
}
