package money

import (
	"math/bits"

	"sluiceway/api"
)

// words is a whole number below 2^128, as two words.
type words struct {
	high, low uint64
}

// over is the number divided by unit, which is not 0, rounded down.
func (w words) over(unit uint64) words {
	high, rest := w.high/unit, w.high%unit
	low, _ := bits.Div64(rest, w.low, unit) // the rest is below unit: what comes out fits one word
	return words{high, low}
}

// upTo is the number, where it is no greater than most, which is not below 0.
func (w words) upTo(most int64) (int64, api.Errno) {
	if w.high != 0 || w.low > uint64(most) {
		return 0, api.ErrMoney
	}
	return int64(w.low), api.OK
}

// product is what two numbers make that are not below 0: it may run over one word, never over two.
type product struct {
	words
}

func multiply(a, b int64) product {
	high, low := bits.Mul64(uint64(a), uint64(b))
	return product{words{high, low}}
}
