// Package pack is bytes: see DOC.md, chapter 1.
package pack

import (
	"slices"

	"sojourn/api"
)

// mostGroups: 64 bits in groups of seven.
const mostGroups = 10

// Writer gathers bytes; its zero value has none.
type Writer struct {
	// Copies of a Writer share all, of which each has the first n bytes: a
	// copy must not see what another one writes behind them.
	all *[]byte
	n   int
}

// Byte puts the lowest eight bits of v.
func (w *Writer) Byte(v int) {
	w.add(byte(v))
}

// Int puts v in as few groups of seven bits as will do, the least first.
func (w *Writer) Int(v int64) {
	u := fold(v)
	for u > 127 {
		w.add(byte(u) | 128)
		u >>= 7
	}
	w.add(byte(u))
}

// Text puts the length of s and its bytes.
func (w *Writer) Text(s string) {
	w.Int(int64(len(s)))
	w.add([]byte(s)...)
}

// Bytes answers a copy of all that was put.
func (w *Writer) Bytes() []byte {
	if w == nil || w.all == nil {
		return nil
	}
	return slices.Clone((*w.all)[:w.n])
}

// add puts b behind w's bytes.
func (w *Writer) add(b ...byte) {
	if w == nil {
		return
	}
	if w.all == nil || len(*w.all) > w.n { // a copy of w went on: w goes its own way
		own := w.Bytes()
		w.all = &own
	}
	*w.all = append(*w.all, b...)
	w.n = len(*w.all)
}

// Reader takes what a Writer put, in the same order; one that is wrong stays so.
type Reader struct {
	left  []byte
	wrong bool
}

// New answers a Reader of a copy of b.
func New(b []byte) *Reader {
	return &Reader{left: slices.Clone(b)}
}

// Byte takes a byte.
func (r *Reader) Byte() int {
	b, ok := r.take(1)
	if !ok {
		return 0
	}
	return int(b[0])
}

// Int takes a number from lo to hi.
func (r *Reader) Int(lo, hi int64) int64 {
	return number(r, lo, hi)
}

// Text takes a text of at most most bytes.
func (r *Reader) Text(most int) string {
	n := number(r, 0, max(most, 0))
	b, _ := r.take(n)
	return string(b)
}

// End tells whether all was right, and all was taken.
func (r *Reader) End() int {
	switch {
	case r == nil || r.wrong:
		return api.ErrBad
	case len(r.left) > 0:
		return api.ErrRange
	}
	return api.OK
}

// number takes a number from lo to hi; without one r is wrong.
func number[N int | int64](r *Reader, lo, hi N) N {
	u, ok := r.groups()
	v := unfold(u)
	if !ok || v < int64(lo) || v > int64(hi) {
		r.fail()
		return 0
	}
	return N(v)
}

// groups takes groups of seven bits, the least first; false: they are none that Int writes.
func (r *Reader) groups() (uint64, bool) {
	var u uint64
	for i := range mostGroups {
		b, ok := r.take(1)
		if !ok {
			return 0, false
		}
		u |= uint64(b[0]&127) << (7 * i)
		if i == mostGroups-1 && b[0] > 1 { // of the last group 64 bits have room for one bit
			return 0, false
		}
		if b[0] < 128 {
			return u, i == 0 || b[0] != 0 // a greatest group of 0 would have been left out
		}
	}
	return 0, false
}

// take takes the next n bytes; without so many r is wrong.
func (r *Reader) take(n int) ([]byte, bool) {
	if r == nil || r.wrong {
		return nil, false
	}
	if n > len(r.left) {
		r.fail()
		return nil, false
	}
	b := r.left[:n]
	r.left = r.left[n:]
	return b, true
}

// fail makes r wrong for good.
func (r *Reader) fail() {
	if r != nil {
		r.wrong = true
	}
}

// fold lays the numbers below 0 between the others, so that the small ones of both are short.
func fold(v int64) uint64 {
	return uint64(v)<<1 ^ uint64(v>>63)
}

// unfold takes fold back.
func unfold(u uint64) int64 {
	return int64(u>>1) ^ -int64(u&1)
}

// crcOf: what four bits that leave the register turn in it (polynomial EDB88320).
var crcOf = [16]uint32{
	0x00000000, 0x1db71064, 0x3b6e20c8, 0x26d930ac,
	0x76dc4190, 0x6b6b51f4, 0x4db26158, 0x5005713c,
	0xedb88320, 0xf00f9344, 0xd6d6a3e8, 0xcb61b38c,
	0x9b64c2b0, 0x86d3d2d4, 0xa00ae278, 0xbdbdf21c,
}

// Sum answers the CRC-32 of b, as in zip.
func Sum(b []byte) uint32 {
	sum := ^uint32(0)
	for _, c := range b {
		sum ^= uint32(c)
		sum = sum>>4 ^ crcOf[sum&15]
		sum = sum>>4 ^ crcOf[sum&15]
	}
	return ^sum
}
