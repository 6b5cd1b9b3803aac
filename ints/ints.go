// Package ints is numbers as bytes, each as chapter 1's Int. It is no layer of DOC.md: it is for the layers whose bytes are numbers, but whose chapters do not lean on pack.
package ints

// Append puts numbers behind out.
func Append[N int | int64](out []byte, numbers ...N) []byte {
	for _, v := range numbers {
		u := fold(int64(v))
		for ; u > 127; u >>= 7 {
			out = append(out, byte(u)|128)
		}
		out = append(out, byte(u))
	}
	return out
}

// Take answers the number that b begins with, and the bytes behind it; 0 and nothing, where no number ends. It takes numbers that are longer than Append writes them, too: who wants none of those appends what was taken again, and compares.
func Take(b []byte) (int64, []byte) {
	var u uint64
	for i, c := range b {
		u |= uint64(c&127) << (7 * i)
		if c < 128 {
			return unfold(u), b[i+1:]
		}
	}
	return 0, nil
}

// fold lays the numbers below 0 between the others, so that the small ones of both are short.
func fold(v int64) uint64 {
	return uint64(v)<<1 ^ uint64(v>>63)
}

// unfold takes fold back.
func unfold(u uint64) int64 {
	return int64(u>>1) ^ -int64(u&1)
}
