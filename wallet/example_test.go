package wallet_test

import (
	"fmt"

	"sluiceway/api"
	"sluiceway/lock"
	"sluiceway/wallet"
)

// Example is what README.md shows of the package, so that it stays true.
func Example() {
	w, _ := wallet.New("n1;")
	l, _ := w.Address()
	fmt.Println(l.Term)
	t := api.Tx{Outs: []api.Out{{Value: 700, Lock: l}, {Value: 10000, Lock: l}}}
	e := w.Take(t, 3)
	fmt.Println(e == api.OK)
	c := w.Coins()
	fmt.Println(len(c), c[0].Out.Value, c[0].At, c[1].Out.Value, c[1].At)
	s, _ := w.Fund(lock.Older(1), 5000, 1000)
	fmt.Println(len(s.Tx.Ins), s.Tx.Outs[0].Value, s.Tx.Outs[1].Value)
	fmt.Println(w.Balance())
	_, e = w.Fund(lock.Older(1), 5000, 1000)
	fmt.Println(e == api.ErrFunds)
	e = w.Take(s.Tx, 4)
	fmt.Println(e == api.OK)
	fmt.Println(w.Balance())
	e = w.Back(s.Tx)
	fmt.Println(e == api.OK)
	fmt.Println(w.Balance())
	s, _ = w.Fund(lock.Older(1), 5000, 1000)
	fmt.Println(w.Balance())
	e = w.Free(s.Tx)
	fmt.Println(e == api.OK)
	fmt.Println(w.Balance())
	// Output:
	// PDn1;T2:t4:coint1:0
	// true
	// 2 10000 3 700 3
	// 1 5000 4500
	// 10700 700
	// true
	// true
	// 5200 5200
	// true
	// 10700 10700
	// 10700 700
	// true
	// 10700 10700
}

// with is a wallet with coins of these values.
func with(values ...int64) *wallet.Wallet {
	w, _ := wallet.New("n1;")
	for i, v := range values {
		l, _ := w.Address()
		w.Take(api.Tx{Outs: []api.Out{{Value: v, Lock: l}}, Tag: int64(i)}, 1)
	}
	return w
}

// Example_chapter is the chapter's table of examples.
func Example_chapter() {
	w := with()
	l, _ := w.Address()
	fmt.Println(lock.Write(l))
	to := lock.Older(1)
	for _, v := range []int64{5000, 9500, 9700} {
		s, e := with(10000).Fund(to, v, 1000)
		fmt.Println(e == api.OK, e == api.ErrFunds, len(s.Tx.Ins))
		for _, o := range s.Tx.Outs {
			fmt.Println(o.Value)
		}
	}
	_, e := with(10000).Fund(to, 0, 1)
	fmt.Println(e == api.ErrMoney)
	w = with(10000, 700)
	w.Fund(to, 5000, 1000)
	fmt.Println(w.Balance())
	// Output:
	// sPDn1;T2:t4:coint1:0 sluiceway: error 0
	// true false 1
	// 5000
	// 4500
	// true false 1
	// 9500
	// false true 0
	// true
	// 10700 700
}
