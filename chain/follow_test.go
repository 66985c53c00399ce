package chain

import (
	"math/rand"
	"testing"

	"sluiceway/api"
	"sluiceway/tx"
)

// blocksOf are all blocks of a ledger.
func blocksOf(t *testing.T, c *Chain) []api.Block {
	t.Helper()
	var l []api.Block
	for at := range c.Height() + 1 {
		b, ok := c.Block(at)
		is(t, "Block", ok, true)
		l = append(l, b)
	}
	return l
}

// eachLedger goes over ledgers to which drawn things were done, ahead of each thing and behind it.
func eachLedger(t *testing.T, seeds int64, look func(d *drawer, c *Chain, step func() api.Errno)) {
	for seed := range seeds {
		d := &drawer{Rand: rand.New(rand.NewSource(1000 + seed))}
		c := newPair(t, d).chain
		for range 20 {
			look(d, c, func() api.Errno { return c.Mine(d.block(c.Height())) })
		}
	}
}

// TestP13_7NeverGrows: no block makes all coins worth more, and no taking back makes them worth more than the first ones.
func TestP13_7NeverGrows(t *testing.T) {
	lost := 0
	eachLedger(t, 150, func(d *drawer, c *Chain, step func() api.Errno) {
		was := sumOf(c)
		if step() == api.OK && sumOf(c) < was {
			lost++
		}
		if sumOf(c) > was {
			t.Fatalf("%d became %d", was, sumOf(c))
		}
		first, _ := c.Block(0)
		c.Back(d.few(3))
		if sumOf(c) > tx.Total(first.Txs[0].Tx) {
			t.Fatalf("%d of %d at first", sumOf(c), tx.Total(first.Txs[0].Tx))
		}
	})
	if lost < 20 {
		t.Errorf("%d blocks with a fee: too few", lost)
	}
}

// TestP13_7EachCoin: gone through from the first block on, all that is spent was a coin till then; what is left over at the end are the coins, each as the transaction that made it says.
func TestP13_7EachCoin(t *testing.T) {
	eachLedger(t, 100, func(d *drawer, c *Chain, step func() api.Errno) {
		step()
		left := map[api.Point]api.Coin{}
		for at, b := range blocksOf(t, c) {
			for _, s := range b.Txs {
				id := idOf(t, s.Tx)
				for _, in := range s.Tx.Ins {
					if _, ok := left[in.Point]; !ok {
						t.Fatalf("%v was no coin", in.Point)
					}
					delete(left, in.Point)
				}
				for n, o := range s.Tx.Outs {
					p := api.Point{Tx: id, N: n}
					if _, ok := left[p]; ok {
						t.Fatalf("%v is made twice", p)
					}
					left[p] = api.Coin{Point: p, Out: o, At: at}
				}
			}
		}
		coins := c.Coins()
		is(t, "Coins", len(coins), len(left))
		for _, coin := range coins {
			is(t, "a coin", sameCoin(coin, left[coin.Point]), true)
		}
	})
}

// TestP13_7BackAndAgain: blocks that are taken back, and mined again, leave the same ledger.
func TestP13_7BackAndAgain(t *testing.T) {
	deep := 0
	eachLedger(t, 100, func(d *drawer, c *Chain, step func() api.Errno) {
		step()
		was, blocks := tell(c), blocksOf(t, c)
		n := d.Intn(1 + min(6, c.Height()))
		back(t, c, n)
		is(t, "Height", c.Height(), len(blocks)-1-n)
		for _, b := range blocks[len(blocks)-n:] {
			is(t, "Mine again", c.Mine(b), api.OK)
			deep++
		}
		is(t, "the ledger", tell(c), was)
	})
	if deep < 500 {
		t.Errorf("%d blocks mined again: too few", deep)
	}
}

// TestP13_7BlocksAlone: a ledger that has just these blocks answers the same, whatever was asked, refused and taken back ahead of that.
func TestP13_7BlocksAlone(t *testing.T) {
	for seed := range int64(150) {
		d := &drawer{Rand: rand.New(rand.NewSource(2000 + seed))}
		p := newPair(t, d)
		for range 25 {
			p.step(t, d)
		}
		blocks := blocksOf(t, p.chain)
		fresh, e := New(blocks[0].Txs[0].Tx.Outs)
		is(t, "New", e, api.OK)
		for _, b := range blocks[1:] {
			is(t, "Mine", fresh.Mine(b), api.OK)
		}
		is(t, "the ledger", tell(fresh), tell(p.chain))
		for range 10 {
			s, at := d.one(p.chain.Height()), d.at(p.chain.Height())
			is(t, "Check", fresh.Check(s, at), p.chain.Check(s, at))
			b := d.block(p.chain.Height())
			is(t, "Mine", fresh.Mine(b), p.chain.Mine(b))
		}
		is(t, "the ledger", tell(fresh), tell(p.chain))
	}
}
