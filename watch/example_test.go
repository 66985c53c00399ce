package watch_test

import (
	"fmt"
	"strings"

	"sluiceway/api"
	"sluiceway/lock"
	"sluiceway/tx"
	"sluiceway/watch"
)

// Example is what README.md shows of the package, so that it stays true.
func Example() {
	p := api.Point{Tx: strings.Repeat("1", 64), N: 2}
	t := api.Tx{Ins: []api.In{{Point: p}}, Outs: []api.Out{{Value: 5, Lock: lock.Older(1)}}}
	id, _ := tx.ID(t)
	w := watch.New(5)
	fmt.Println(w.Tx(id, 2) == api.OK, w.Spend(p) == api.OK)
	fmt.Println(w.Spend(p) == api.ErrTwice, w.Asks())
	l := w.Block(api.Block{Txs: []api.Signed{{Tx: t}}})
	fmt.Println(len(l), l[0].Kind, l[0].Point.Tx == id, l[0].At, l[1].Kind, l[1].Point == p, l[1].At)
	l = w.Block(api.Block{})
	fmt.Println(len(l), l[0].Kind, l[0].At, l[0].Deep, w.Height())
	l, e := w.Back(2)
	fmt.Println(len(l), l[0].Kind, l[0].At, l[1].Kind, l[1].At, e == api.OK, w.Height())
	_, e = w.Back(1)
	fmt.Println(e == api.ErrReorg)
	// Output:
	// true true
	// true 2
	// 2 1 true 6 2 true 6
	// 1 3 6 2 7
	// 2 4 6 5 6 true 5
	// true
}
