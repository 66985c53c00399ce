package chain_test

import (
	"fmt"

	"sluiceway/api"
	"sluiceway/chain"
	"sluiceway/lock"
	"sluiceway/tx"
)

// Example is what README.md shows of the package, so that it stays true.
func Example() {
	first := []api.Out{{Value: 100, Lock: lock.Sig("Pn1;")}}
	c, _ := chain.New(first)
	id, _ := tx.ID(api.Tx{Outs: first})
	p := api.Point{Tx: id}
	coin, ok := c.Coin(p)
	fmt.Println(coin.Out.Value, coin.At, ok)
	t := api.Tx{Ins: []api.In{{Point: p}}, Outs: []api.Out{{Value: 90, Lock: lock.Sig("Pn2;")}}}
	sig, _ := tx.Sign(t, "n1;")
	x := api.Signed{Tx: t, Wits: []api.Witness{{Sigs: []api.Term{sig}}}}
	fmt.Println(c.Check(x, 1) == api.OK, c.Check(x, 0) == api.ErrArg)
	fmt.Println(c.Mine(api.Block{Txs: []api.Signed{x}}) == api.OK, c.Height())
	fmt.Println(c.Mine(api.Block{Txs: []api.Signed{x}}) == api.ErrTwice)
	id, _ = tx.ID(t)
	_, at, ok := c.Tx(id)
	fmt.Println(at, ok)
	l := c.Coins()
	fmt.Println(len(l), l[0].Out.Value, l[0].At)
	b, ok := c.Block(1)
	fmt.Println(len(b.Txs), ok)
	d := c.Copy()
	fmt.Println(d.Back(1) == api.OK, d.Height(), c.Height())
	coin, ok = d.Coin(p)
	fmt.Println(coin.Out.Value, ok)
	fmt.Println(d.Back(1) == api.ErrReorg)
	// Output:
	// 100 0 true
	// true true
	// true 1
	// true
	// 1 true
	// 1 90 1
	// 1 true
	// true 0 1
	// 100 true
	// true
}
