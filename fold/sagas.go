package fold

import (
	"maps"
	"slices"

	"sojourn/api"
	"sojourn/ints"
	"sojourn/saga"
)

// sagas is what the orchestrator keeps: one for each booking, by its number.
type sagas map[int]api.Saga

// books answers the numbers of all, rising.
func (all sagas) books() []int {
	return slices.Sorted(maps.Keys(all))
}

// Bytes answers a Text of each one's bytes.
func (all sagas) Bytes() []byte {
	var out []byte
	for _, book := range all.books() {
		b, _ := saga.Put(all[book])
		out = append(ints.Append(out, len(b)), b...)
	}
	return out
}

// sagasTake notes the saga that r tells of, if it begins, or is the next state of the one that is there.
func sagasTake(all sagas, r api.Record) bool {
	if r.Kind != api.RSaga {
		return false
	}
	book := r.Saga.Want.Book
	is, ok := all[book]
	if ok && !follows(is, r) || !ok && !begins(r.Saga) {
		return false
	}
	all[book] = r.Saga
	return true
}

// noEntry answers the zero one: who leads bookings has nothing of them.
func noEntry(sagas, int) api.Entry { return api.Entry{} }

// begins tells whether s is as it was accepted.
func begins(s api.Saga) bool {
	first, err := saga.New(s.Want, s.Since)
	return err == api.OK && s == first
}

// follows tells whether what r tells is one of the states that may come next behind s. What leaves s as it is makes no state.
func follows(s api.Saga, r api.Record) bool {
	is := func(next api.Saga, ok bool) bool { return ok && next == r.Saga }
	ask, _ := saga.Next(s)
	return is(saga.Answer(s, ask, api.Done)) ||
		is(saga.Answer(s, ask, api.Refused)) ||
		is(saga.Cancel(s)) ||
		is(saga.Late(s, r.Now))
}
