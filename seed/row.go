package seed

import (
	"math/bits"

	"sluiceway/api"
	"sluiceway/fresh"
)

// A row is what is kept: each secret by how many bits of its place are 0, from the lowest one on; "" where none is. One that is kept by k makes those at 2^k places, from its own upward. As secrets come one by one downward, those places lie end to end in the row's order, from the last place that was heard up to Top: so no place has to be kept.
type row [placeBits + 1]api.Term

// with is the row behind the secret at i, the next place, being heard too. It is false, unless t makes what it has to. (The row that it works on is a copy, so that what is refused changes nothing.)
func (r row) with(i int64, t api.Term) (row, bool) {
	k := min(bits.TrailingZeros64(uint64(i)), placeBits)
	for b := range k {
		// All places that are as i above the lowest k bits were heard, but i: what they left is kept at i + 1, i + 2, i + 4 ..
		made, e := from(t, k, i+1<<b)
		if e != api.OK || made != r[b] {
			return row{}, false
		}
		r[b] = ""
	}
	r[k] = fresh.Term(t)
	return r, true
}

// maker is what is kept that makes the secret at a place, and by how many bits; the place is told by how far it lies above the last one that was heard.
func (r row) maker(above int64) (api.Term, int) {
	for k, x := range r {
		if x == "" {
			continue
		}
		if above < 1<<k {
			return x, k
		}
		above -= 1 << k
	}
	return "", 0
}
