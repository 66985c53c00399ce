package chain

import (
	"sluiceway/api"
	"sluiceway/fresh"
	"sluiceway/tx"
)

// A draft is a block of that number over a ledger, while it is put together. What it changes stands beside the ledger, which takes it when all of it may stand.
type draft struct {
	over  *Chain
	at    int
	ids   []string
	txs   map[string]standing
	coins map[api.Point]change
}

// A change is a coin that is made, or that one is spent.
type change struct {
	api.Coin
	spent bool
}

func (c *Chain) draft(at int) *draft {
	return &draft{over: c, at: at, txs: map[string]standing{}, coins: map[api.Point]change{}}
}

// put takes a transaction that may stand, with its id.
func (d *draft) put(id string, s api.Signed) {
	made := standing{fresh.Signed(s), d.at}
	d.ids = append(d.ids, id)
	d.txs[id] = made
	for _, in := range made.Tx.Ins {
		d.coins[in.Point] = change{spent: true}
	}
	for n := range made.Tx.Outs {
		p := api.Point{Tx: id, N: n}
		d.coins[p] = change{Coin: made.coin(p)}
	}
}

// judge tells the id of a transaction that may stand behind those that were put; else its error.
func (d *draft) judge(s api.Signed) (string, api.Errno) {
	id, e := tx.ID(s.Tx)
	if e != api.OK || !tx.Whole(s) {
		return "", api.ErrTx
	}
	coins, found := d.spends(s.Tx.Ins)
	switch {
	case d.stands(id):
		return "", api.ErrTwice
	case !found:
		return "", api.ErrSpent
	case d.isEarly(s.Tx, coins):
		return "", api.ErrEarly
	case !opensAll(s, coins):
		return "", api.ErrShut
	case tx.Total(s.Tx) > worth(coins):
		return "", api.ErrMoney
	}
	return id, api.OK
}

func (d *draft) stands(id string) bool {
	_, here := d.txs[id]
	_, below := d.over.txs[id]
	return here || below
}

// spends are the Ins' coins, in order; false, if one is wanting.
func (d *draft) spends(ins []api.In) ([]api.Coin, bool) {
	coins := make([]api.Coin, len(ins))
	for i, in := range ins {
		coin, ok := d.coin(in.Point)
		if !ok {
			return nil, false
		}
		coins[i] = coin
	}
	return coins, true
}

func (d *draft) coin(p api.Point) (api.Coin, bool) {
	if x, changed := d.coins[p]; changed {
		return x.Coin, !x.spent
	}
	coin, ok := d.over.coins[p]
	return coin, ok
}

func (d *draft) isEarly(t api.Tx, coins []api.Coin) bool {
	if t.After > d.at {
		return true
	}
	for i, in := range t.Ins {
		if in.Age > d.at-coins[i].At {
			return true
		}
	}
	return false
}

// opensAll asks of a whole transaction whether each Wit opens its In's coin. The other Wits are left out while one is asked, so that not all of them are gone over for each In.
func opensAll(s api.Signed, coins []api.Coin) bool {
	for i, coin := range coins {
		one := api.Signed{Tx: s.Tx, Wits: make([]api.Witness, len(s.Wits))}
		one.Wits[i] = s.Wits[i]
		if !tx.Opens(one, i, coin.Out.Lock) {
			return false
		}
	}
	return true
}

// worth can't run over: all coins together are never more than the first ones.
func worth(coins []api.Coin) int64 {
	sum := int64(0)
	for _, coin := range coins {
		sum += coin.Out.Value
	}
	return sum
}
