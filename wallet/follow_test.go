package wallet

import (
	"math/rand"
	"slices"
	"testing"

	"sluiceway/api"
	"sluiceway/money"
	"sluiceway/tx"
)

// outOf is what an Out that was told of is worth, and its lock; false, if none was.
func outOf(coins []api.Coin, p api.Point) (api.Out, bool) {
	i := slices.IndexFunc(coins, func(c api.Coin) bool { return c.Point == p })
	if i < 0 {
		return api.Out{}, false
	}
	return coins[i].Out, true
}

// follows asks of what was funded that it opens coins that were had, pays what was asked, and no more for fees than it may. (Its weight is that with a second Out: what isn't enough for one goes where it would have gone.)
func follows(t *testing.T, s api.Signed, coins []api.Coin, l api.Lock, value, rate int64) {
	t.Helper()
	is(t, "whole", tx.Whole(s), true)
	sum := int64(0)
	for i, in := range s.Tx.Ins {
		o, ok := outOf(coins, in.Point)
		is(t, "the coin is had", ok, true)
		is(t, "it opens", tx.Opens(s, i, o.Lock), true)
		is(t, "it needs no time", in.Age, 0)
		sum += o.Value
	}
	is(t, "what is paid", tell(s.Tx.Outs[0]), tell(api.Out{Value: value, Lock: l}))
	least, e := money.Cost(rate, tx.Weight(len(s.Tx.Ins), len(s.Tx.Outs)))
	is(t, "Cost", e, api.OK)
	most, e := money.Cost(rate, tx.Weight(len(s.Tx.Ins), 2))
	is(t, "Cost", e, api.OK)
	switch fee := sum - tx.Total(s.Tx); {
	case len(s.Tx.Outs) == 2:
		is(t, "the fee", fee, most)
	case fee < least || fee > most+545:
		t.Fatalf("the fee: %d, want %d to %d", fee, least, most+545)
	}
}

// A ledger is what a wallet was told in order, and what was funded and isn't freed, or taken.
type ledger struct {
	txs    []api.Tx
	told   []string // the coins ahead of each of them
	funded []api.Tx
}

func (l *ledger) take(t *testing.T, w *Wallet, x api.Tx) {
	t.Helper()
	l.told = append(l.told, tell(w.Coins()))
	takes(t, w, x, len(l.txs))
	l.txs = append(l.txs, x)
}

// back takes the last transaction back: the coins are as they were ahead of it.
func (l *ledger) back(t *testing.T, w *Wallet) {
	t.Helper()
	n := len(l.txs) - 1
	takesBack(t, w, l.txs[n])
	is(t, "Coins", tell(w.Coins()), l.told[n])
	l.txs, l.told = l.txs[:n], l.told[:n]
}

// TestP17_8Follows: drawn histories, in which what is funded is taken, freed, or waits.
func TestP17_8Follows(t *testing.T) {
	count := 0
	for round := range int64(150) {
		r := rand.New(rand.NewSource(round))
		w, l := opened(t, 3), &ledger{}
		for i := range 60 {
			switch r.Intn(6) {
			case 0, 1:
				x := api.Tx{Tag: int64(i)}
				for range 1 + r.Intn(3) {
					x.Outs = append(x.Outs, api.Out{Value: 1 + r.Int63n(10000), Lock: mine(r.Intn(3))})
				}
				l.take(t, w, x)
			case 2, 3:
				coins, value, rate := w.Coins(), 1+r.Int63n(15000), r.Int63n(3)*r.Int63n(1000)
				s, e := w.Fund(theirs, value, rate)
				if e != api.OK {
					is(t, "Fund", e, api.ErrFunds)
					continue
				}
				count++
				follows(t, s, coins, theirs, value, rate)
				for _, x := range l.funded {
					is(t, "a coin is spent twice", slices.ContainsFunc(x.Ins, func(a api.In) bool { return slices.Contains(s.Tx.Ins, a) }), false)
				}
				l.funded = append(l.funded, s.Tx)
			case 4:
				if n := len(l.funded); n > 0 {
					frees(t, w, l.funded[n-1])
					l.funded = l.funded[:n-1]
				}
			case 5:
				if n := len(l.funded); n > 0 {
					l.take(t, w, l.funded[n-1])
				}
				if r.Intn(2) == 0 && len(l.txs) > 0 {
					l.back(t, w)
					l.funded = nil // what is had again may be spent again
					for _, c := range w.Coins() {
						frees(t, w, api.Tx{Ins: spending(c.Point), Outs: []api.Out{{Value: 1, Lock: theirs}}})
					}
				} else if n := len(l.funded); n > 0 {
					l.funded = l.funded[:n-1]
				}
			}
		}
		for len(l.txs) > 0 {
			l.back(t, w)
		}
		has(t, w)
	}
	if count < 800 {
		t.Errorf("%d were funded: too few", count)
	}
}

// TestP17_8Edges: what is left just does for an Out, or just doesn't.
func TestP17_8Edges(t *testing.T) {
	for _, rate := range []int64{0, 1, 9, 10, 11, 253, 1000, 9999} {
		for left := int64(-120); left < 700; left++ {
			with, e := money.Cost(rate, tx.Weight(1, 2))
			is(t, "Cost", e, api.OK)
			w, _ := made(t, 5000+with+left)
			coins := w.Coins()
			s, e := w.Fund(theirs, 5000, rate)
			if without, _ := money.Cost(rate, tx.Weight(1, 1)); with+left < without {
				is(t, "Fund", e, api.ErrFunds)
				continue
			}
			is(t, "Fund", e, api.OK)
			follows(t, s, coins, theirs, 5000, rate)
			is(t, "Outs", len(s.Tx.Outs) == 2, left >= 546)
		}
	}
}

// TestP17_8Twice: until all coins are spent, and in between some freed, no coin is in two transactions.
func TestP17_8Twice(t *testing.T) {
	w, _ := made(t, alike(40, 1000)...)
	var l []api.Tx
	spent := map[api.Point]int{}
	for i := range 80 {
		s, e := w.Fund(theirs, 1500, 100)
		if e != api.OK {
			is(t, "Fund", e, api.ErrFunds)
			break
		}
		for _, in := range s.Tx.Ins {
			spent[in.Point]++
			is(t, "how often it's spent", spent[in.Point], 1)
		}
		l = append(l, s.Tx)
		if i%3 == 2 {
			frees(t, w, l[i/3])
			for _, in := range l[i/3].Ins {
				spent[in.Point]--
			}
		}
	}
	_, free := w.Balance()
	is(t, "what is not set aside", free < 1540, true)
	is(t, "there were many", len(l) > 25, true)
}
