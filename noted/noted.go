// Package noted is answers that are given once, and told again from then on. It is no layer of DOC.md: it is what participants that answer (chapters 12 and 13) have in common.
package noted

import (
	"sojourn/api"
	"sojourn/ints"
	"sojourn/table"
)

// Answers is what a participant answered. The zero Answers has none.
type Answers struct{ table table.Table }

// Once answers what was answered to o, false; where nothing was, what do answers, which is noted, true: so do is called once for each booking and kind. What may not be asked is not to be handed in: its answer can't be noted.
func (a *Answers) Once(o api.Op, do func() int) (int, bool) {
	if answer, ok := a.table.Find(o); ok {
		return answer, false
	}
	answer := do()
	return answer, a.table.Put(o, answer)
}

// Len answers how many answers are noted.
func (a *Answers) Len() int { return a.table.Len() }

// Append puts the bytes of the answers behind out, as chapter 12 tells them: how many there are, and Book, Kind and the answer of each.
func (a *Answers) Append(out []byte) []byte {
	keys := a.table.Keys()
	out = ints.Append(out, len(keys))
	for _, key := range keys {
		book, kind := key[0], key[1]
		answer, _ := a.table.Find(api.Op{Book: book, Kind: kind})
		out = ints.Append(out, book, kind, answer)
	}
	return out
}
