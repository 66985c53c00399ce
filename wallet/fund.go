package wallet

import (
	"sluiceway/api"
	"sluiceway/fresh"
	"sluiceway/keys"
	"sluiceway/lock"
	"sluiceway/money"
	"sluiceway/term"
	"sluiceway/tx"
)

// leastChange is the least value of an output of what is left, in satoshi.
const leastChange = 546

// Fund: P17.5. Until the transaction is signed nothing changes, as it may be refused up to there.
func (w *Wallet) Fund(l api.Lock, value, rate int64) (api.Signed, api.Errno) {
	switch {
	case w.isNil():
		return api.Signed{}, api.ErrNil
	case !lock.Right(l):
		return api.Signed{}, api.ErrLock
	case value < 1 || value > api.MaxCoin || rate < 0 || rate > api.MaxCoin:
		return api.Signed{}, api.ErrMoney
	}
	chosen, e := w.choose(value, rate)
	if e != api.OK {
		return api.Signed{}, e
	}
	t := pay(chosen, api.Out{Value: value, Lock: fresh.Lock(l)})
	change := changeOf(chosen, value, rate)
	key := api.Term("")
	if change > 0 {
		key, e = w.nextKey()
		if e != api.OK {
			return api.Signed{}, e
		}
		t.Outs = append(t.Outs, api.Out{Value: change, Lock: lock.Sig(key)})
	}
	s, e := w.sign(t, chosen)
	if e != api.OK {
		return api.Signed{}, e
	}
	for _, c := range chosen {
		w.setAside(c.Point, true)
	}
	if change > 0 {
		w.give(key)
	}
	return s, api.OK
}

// choose tells the first coins that do for a value and the cost of a transaction with one Out. What a transaction's coins come to never runs over: they are at most MaxIO.
func (w *Wallet) choose(value, rate int64) ([]own, api.Errno) {
	var chosen []own
	sum := int64(0)
	for _, c := range w.inOrder() {
		if c.aside {
			continue
		}
		if len(chosen) == api.MaxIO {
			break
		}
		chosen = append(chosen, c)
		sum += c.Out.Value
		cost, e := money.Cost(rate, tx.Weight(len(chosen), 1))
		if e != api.OK {
			return nil, e
		}
		if sum >= value+cost {
			return chosen, api.OK
		}
	}
	return nil, api.ErrFunds
}

// changeOf is what is left for a second Out; 0, if there is to be none: too little is left, or a second Out would cost more than there is.
func changeOf(chosen []own, value, rate int64) int64 {
	cost, e := money.Cost(rate, tx.Weight(len(chosen), 2))
	if e != api.OK {
		return 0
	}
	left := -value - cost
	for _, c := range chosen {
		left += c.Out.Value
	}
	if left < leastChange {
		return 0
	}
	return left
}

// pay is the transaction that spends these coins for an output.
func pay(chosen []own, o api.Out) api.Tx {
	t := api.Tx{Outs: []api.Out{o}}
	for _, c := range chosen {
		t.Ins = append(t.Ins, api.In{Point: fresh.Point(c.Point)})
	}
	return t
}

// sign puts one signature for each In, by its coin's secret. That was made when its address was given out, so it's not refused; but a long one may have no room for a signature.
func (w *Wallet) sign(t api.Tx, chosen []own) (api.Signed, api.Errno) {
	m, e := tx.Msg(t)
	if e != api.OK {
		return api.Signed{}, e
	}
	s := api.Signed{Tx: t}
	for _, c := range chosen {
		secret, _ := keys.Coin(w.root, c.number)
		sig, e := term.Sign(secret, m)
		if e != api.OK {
			return api.Signed{}, e
		}
		s.Wits = append(s.Wits, api.Witness{Sigs: []api.Term{sig}})
	}
	return s, api.OK
}
