package tx_test

import (
	"fmt"
	"strings"

	"sluiceway/api"
	"sluiceway/lock"
	"sluiceway/tx"
)

// Example is what README.md shows of the package, so that it stays true.
func Example() {
	p := strings.Repeat("1", 64)
	t := api.Tx{Ins: []api.In{{Point: api.Point{Tx: p, N: 2}, Age: 3}}, Outs: []api.Out{{Value: 5, Lock: lock.Older(1)}}, After: 7, Tag: 9}
	s, _ := tx.Write(t)
	fmt.Println(s)
	t, _ = tx.Read(s)
	fmt.Println(t.After, t.Tag, len(t.Ins), len(t.Outs), t.Ins[0].Point == api.Point{Tx: p, N: 2})
	_, e := tx.Read("x0;0;0:0:")
	fmt.Println(e == api.ErrTx)
	id, _ := tx.ID(t)
	fmt.Println(id)
	m, _ := tx.Msg(t)
	fmt.Println(m)
	sig, _ := tx.Sign(t, "n1;")
	fmt.Println(sig)
	x := api.Signed{Tx: t, Wits: []api.Witness{{Sigs: []api.Term{sig}}}}
	fmt.Println(tx.Opens(x, 0, lock.Sig("Pn1;")), tx.Opens(x, 0, lock.Sig("Pn2;")))
	s, _ = tx.WriteSigned(x)
	fmt.Println(s)
	fmt.Println(tx.Weight(1, 2), tx.Total(t))
	// Output:
	// x7;9;1:11111111111111111111111111111111111111111111111111111111111111112;3;1:5;o1;
	// 7 9 1 1 true
	// true
	// 7a9b266ec59f2a58800cdbfbd93bc324a93c237b04e8f4c706be828780fd1e7e
	// t64:7a9b266ec59f2a58800cdbfbd93bc324a93c237b04e8f4c706be828780fd1e7e
	// Sn1;t64:7a9b266ec59f2a58800cdbfbd93bc324a93c237b04e8f4c706be828780fd1e7e
	// true false
	// x7;9;1:11111111111111111111111111111111111111111111111111111111111111112;3;1:5;o1;w1:Sn1;t64:7a9b266ec59f2a58800cdbfbd93bc324a93c237b04e8f4c706be828780fd1e7e0:
	// 500 5
}
