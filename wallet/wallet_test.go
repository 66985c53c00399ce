package wallet

import (
	"fmt"
	"math"
	"slices"
	"testing"

	"sluiceway/api"
	"sluiceway/lock"
)

func TestP17_1New(t *testing.T) {
	for _, root := range []api.Term{"n1;", "n0;", "t0:", "T0:", "Pn1;", "Vn1;n2;", "Kn1;n2;", "Dn1;t1:0", nest(62), sized(rootRoom)} {
		w := openedOf(t, root, 0)
		has(t, w)
		balances(t, w, 0, 0)
		refusesBack(t, w, api.Tx{Outs: []api.Out{{Value: 1, Lock: ownLock(root, 0)}}})
		refusesFund(t, w, theirs, 1, 0, api.ErrFunds)
		takes(t, w, api.Tx{Outs: []api.Out{{Value: 1, Lock: ownLock(root, 0)}}}, 1)
		has(t, w)
		gives(t, w, ownLock(root, 0))
	}
}

func isNoWallet(t *testing.T, root api.Term) {
	t.Helper()
	w, e := New(root)
	is(t, fmt.Sprintf("New of %.60q", root), e, api.ErrTerm)
	is(t, fmt.Sprintf("New of %.60q", root), w, nil)
}

// TestP17_1Refused: also where the coin's secret has no room, or but its public key has none.
func TestP17_1Refused(t *testing.T) {
	for _, root := range wrongTerms() {
		isNoWallet(t, root)
	}
	for _, root := range []api.Term{nest(63), nest(64), sized(rootRoom + 1), sized(rootRoom + 2), sized(api.MaxTerm)} {
		isNoWallet(t, root)
	}
}

func TestP17_1Nil(t *testing.T) {
	right := api.Tx{Outs: []api.Out{{Value: 5, Lock: mine(0)}}}
	for _, w := range []*Wallet{nil, {}} {
		for _, x := range append(wrongTxs(foreign(0)), right) {
			is(t, "Take", w.Take(x, 1), api.ErrNil)
			is(t, "Back", w.Back(x), api.ErrNil)
			is(t, "Free", w.Free(x), api.ErrNil)
		}
		for _, x := range append(wrongLocks(), theirs) {
			for _, v := range []int64{-1, 0, 1, api.MaxCoin + 1} {
				s, e := w.Fund(x, v, v)
				is(t, "Fund", e, api.ErrNil)
				is(t, "Fund", tell(s), tell(api.Signed{}))
			}
		}
		l, e := w.Address()
		is(t, "Address", e, api.ErrNil)
		is(t, "Address", tell(l), tell(api.Lock{}))
		is(t, "Coins", len(w.Coins()), 0)
		balances(t, w, 0, 0)
	}
}

func TestP17_2Address(t *testing.T) {
	w, other := opened(t, 0), openedOf(t, "n2;", 0)
	is(t, "the first one", mine(0).Term, "PDn1;T2:t4:coint1:0")
	is(t, "the twelfth one", mine(11).Term, "PDn1;T2:t4:coint2:11")
	for n := range 120 {
		gives(t, w, mine(n))
		gives(t, other, ownLock("n2;", n))
	}
	for n := range 3 {
		gives(t, openedOf(t, "Vn1;n2;", n), api.Lock{Kind: api.LSig, Term: "PDVn1;n2;T2:t4:coin" + word(fmt.Sprint(n))})
	}
}

// TestP17_2Refused: the numbers from 10 and from 100 on are longer than those below.
func TestP17_2Refused(t *testing.T) {
	for room, last := range []int{10, 100, 1000} {
		root := sized(rootRoom - room)
		w := openedOf(t, root, last)
		for range 3 {
			refusesAddress(t, w, api.ErrLimit)
		}
		takes(t, w, api.Tx{Outs: []api.Out{{Value: 5, Lock: ownLock(root, last-1)}}}, 1)
		balances(t, w, 5, 5)
		refusesAddress(t, w, api.ErrLimit)
	}
}

func TestP17_3Take(t *testing.T) {
	w := opened(t, 2)
	x := api.Tx{Outs: []api.Out{
		{Value: 50, Lock: mine(1)},
		{Value: 40, Lock: theirs},
		{Value: 30, Lock: mine(0)},
		{Value: 20, Lock: mine(1)},
		{Value: 10, Lock: mine(2)},
	}, After: 3, Tag: 4}
	takes(t, w, x, 9)
	has(t, w, coin(t, x, 0, 9), coin(t, x, 2, 9), coin(t, x, 3, 9))
	balances(t, w, 100, 100)
}

// TestP17_3NoAddress: locks that have an address in them, or another one's, are none.
func TestP17_3NoAddress(t *testing.T) {
	w := opened(t, 3)
	x := api.Tx{}
	for _, l := range []api.Lock{
		lock.Any(mine(0)), lock.All(mine(0), mine(1)), lock.Any(mine(0), theirs), lock.Pre("H" + ownKey("n1;", 0)), lock.Pre("H" + ownSecret("n1;", 0)),
		lock.Sig("Pn1;"), lock.Sig("P" + ownKey("n1;", 0)), ownLock("n2;", 0), ownLock("n10;", 0), mine(3), mine(10), lock.Sig("PDn1;T2:t4:nodet1:0"), lock.Sig("PDn1;T2:t4:coint2:00"), lock.Sig("PDn1;T2:t4:coint2:-1"), theirs,
	} {
		if lock.Right(l) {
			x.Outs = append(x.Outs, api.Out{Value: 5, Lock: l})
		}
	}
	is(t, "Outs", len(x.Outs), 15)
	takes(t, w, x, 1)
	has(t, w)
	balances(t, w, 0, 0)
	refusesFund(t, w, theirs, 1, 0, api.ErrFunds)
}

// TestP17_3Later: an address that is given out behind Take makes no coin of what was taken, unless it's taken back and taken again.
func TestP17_3Later(t *testing.T) {
	w := opened(t, 0)
	x := api.Tx{Outs: []api.Out{{Value: 5, Lock: mine(0)}, {Value: 4, Lock: mine(1)}}}
	takes(t, w, x, 1)
	has(t, w)
	gives(t, w, mine(0))
	has(t, w)
	takesBack(t, w, x)
	takes(t, w, x, 2)
	has(t, w, coin(t, x, 0, 2))
	gives(t, w, mine(1))
	has(t, w, coin(t, x, 0, 2))
	takesBack(t, w, x)
	has(t, w)
	takes(t, w, x, 3)
	has(t, w, coin(t, x, 0, 3), coin(t, x, 1, 3))
}

// TestP17_3Twice: two transactions are the same by all that stands in them.
func TestP17_3Twice(t *testing.T) {
	w := opened(t, 1)
	x := api.Tx{Outs: []api.Out{{Value: 5, Lock: mine(0)}}}
	y := api.Tx{Outs: []api.Out{{Value: 5, Lock: mine(0)}}, Tag: 1}
	z := api.Tx{Ins: []api.In{{Point: foreign(0), Age: 1}}, Outs: []api.Out{{Value: 4, Lock: theirs}}}
	for _, l := range [][]api.Tx{{x}, {y, x}, {z, y, x}} {
		takes(t, w, l[0], 1)
		for _, one := range l {
			refusesTake(t, w, one)
		}
	}
	takesBack(t, w, y)
	refusesTake(t, w, x)
	refusesTake(t, w, z)
	takes(t, w, y, 8)
	refusesTake(t, w, y)
	older := api.Tx{Ins: []api.In{{Point: foreign(0), Age: 2}}, Outs: []api.Out{{Value: 4, Lock: theirs}}}
	takes(t, w, older, 1)
	balances(t, w, 10, 10)
}

func TestP17_3Wrong(t *testing.T) {
	w, l := made(t, 700, 10000)
	funded(t, w, 5000, 1000)
	for _, x := range wrongTxs(point(t, l[0], 0)) {
		refusesTake(t, w, x)
		refusesBack(t, w, x)
	}
}

// TestP17_3At: any number will do, and is told.
func TestP17_3At(t *testing.T) {
	w := opened(t, 1)
	var want []api.Coin
	for i, at := range []int{0, 1, -1, 1 << 30, math.MaxInt, math.MinInt} {
		x := api.Tx{Outs: []api.Out{{Value: int64(100 - i), Lock: mine(0)}}}
		takes(t, w, x, at)
		want = append(want, coin(t, x, 0, at))
	}
	has(t, w, want...)
}

// TestP17_3Spend: what is had goes when it's spent, set aside or not; what it makes comes.
func TestP17_3Spend(t *testing.T) {
	w, l := made(t, 100, 200, 3000, 50)
	funded(t, w, 2000, 0)
	balances(t, w, 3350, 350)
	x := api.Tx{
		Ins:  spending(foreign(1), point(t, l[0], 0), foreign(0), point(t, l[2], 0), api.Point{Tx: idOf(t, l[1]), N: 1}),
		Outs: []api.Out{{Value: 2500, Lock: theirs}, {Value: 500, Lock: mine(3)}},
	}
	takes(t, w, x, 9)
	has(t, w, coin(t, x, 1, 9), coin(t, l[1], 0, 1), coin(t, l[3], 0, 3))
	balances(t, w, 750, 750)
	again := api.Tx{Ins: x.Ins, Outs: []api.Out{{Value: 1, Lock: theirs}}}
	takes(t, w, again, 10)
	balances(t, w, 750, 750)
	takesBack(t, w, again)
	balances(t, w, 750, 750)
	takesBack(t, w, x)
	has(t, w, coin(t, l[2], 0, 2), coin(t, l[1], 0, 1), coin(t, l[0], 0, 0), coin(t, l[3], 0, 3))
	balances(t, w, 3350, 3350)
}

func TestP17_3Back(t *testing.T) {
	w, l := made(t, 100, 200)
	never := api.Tx{Outs: []api.Out{{Value: 5, Lock: mine(0)}}}
	refusesBack(t, w, never)
	refusesBack(t, w, api.Tx{Ins: spending(point(t, l[0], 0)), Outs: []api.Out{{Value: 5, Lock: theirs}}})
	takesBack(t, w, l[0])
	refusesBack(t, w, l[0])
	has(t, w, coin(t, l[1], 0, 1))
	takesBack(t, w, l[1])
	refusesBack(t, w, l[1])
	refusesBack(t, w, l[0])
	has(t, w)
	takes(t, w, l[0], 5)
	has(t, w, coin(t, l[0], 0, 5))
	takesBack(t, w, l[0])
	refusesBack(t, w, l[0])
	has(t, w)
}

// TestP17_3BackAside: what comes back is not set aside, and is signed for by its own secret.
func TestP17_3BackAside(t *testing.T) {
	w, l := made(t, 100, 2000)
	s := funded(t, w, 1900, 0)
	balances(t, w, 2100, 100)
	takes(t, w, s.Tx, 5)
	balances(t, w, 100, 100)
	takesBack(t, w, s.Tx)
	has(t, w, coin(t, l[1], 0, 1), coin(t, l[0], 0, 0))
	balances(t, w, 2100, 2100)
	x := api.Tx{Ins: spending(point(t, l[1], 0)), Outs: []api.Out{{Value: 1800, Lock: theirs}}}
	funds(t, w, theirs, 1800, 0, signed(t, x, ownSecret("n1;", 1)))
}

// TestP17_3BackSetAside: what a transaction made goes behind Back also where it was set aside, and comes again as what is not.
func TestP17_3BackSetAside(t *testing.T) {
	w, l := made(t, 1000)
	funded(t, w, 1000, 0)
	takesBack(t, w, l[0])
	has(t, w)
	takes(t, w, l[0], 4)
	has(t, w, coin(t, l[0], 0, 4))
	balances(t, w, 1000, 1000)
}

// TestP17_3BackSpent: coins that were spent since are not had behind Back. They come again when what spent them is taken back, as they were had when that was taken.
func TestP17_3BackSpent(t *testing.T) {
	w, l := made(t, 1000)
	x := api.Tx{Ins: spending(point(t, l[0], 0)), Outs: []api.Out{{Value: 900, Lock: mine(0)}}}
	takes(t, w, x, 5)
	has(t, w, coin(t, x, 0, 5))
	takesBack(t, w, l[0])
	has(t, w, coin(t, x, 0, 5))
	refusesBack(t, w, l[0])
	takesBack(t, w, x)
	has(t, w, coin(t, l[0], 0, 0))
	takes(t, w, l[0], 6)
	has(t, w, coin(t, l[0], 0, 6))
}

// TestP17_3Order: a spend that is taken ahead of what makes the coin spends nothing that is had.
func TestP17_3Order(t *testing.T) {
	w := opened(t, 1)
	x := api.Tx{Outs: []api.Out{{Value: 1000, Lock: mine(0)}}}
	y := api.Tx{Ins: spending(point(t, x, 0)), Outs: []api.Out{{Value: 900, Lock: theirs}}}
	takes(t, w, y, 1)
	takes(t, w, x, 2)
	has(t, w, coin(t, x, 0, 2))
	takesBack(t, w, y)
	has(t, w, coin(t, x, 0, 2))
	takesBack(t, w, x)
	has(t, w)
}

// TestP17_3Chain: several transactions, each of which spends what the one ahead of it made, and back.
func TestP17_3Chain(t *testing.T) {
	w, l := made(t, 1000, 2000)
	told := []string{tell(w.Coins())}
	for i := range 20 {
		last := l[len(l)-1]
		x := api.Tx{Ins: spending(point(t, last, 0)), Outs: []api.Out{{Value: int64(1999 - i), Lock: mine(i % 2)}}}
		takes(t, w, x, i+2)
		l = append(l, x)
		told = append(told, tell(w.Coins()))
	}
	for len(told) > 1 {
		is(t, "Coins", tell(w.Coins()), told[len(told)-1])
		takesBack(t, w, l[len(l)-1])
		l, told = l[:len(l)-1], told[:len(told)-1]
	}
	is(t, "Coins", tell(w.Coins()), told[0])
	balances(t, w, 3000, 3000)
}

// TestP17_4Coins: of like values by the Txs, of like Txs by the Ns, whichever came first.
func TestP17_4Coins(t *testing.T) {
	txs := []api.Tx{
		{Outs: []api.Out{{Value: 7, Lock: mine(0)}, {Value: 9, Lock: mine(1)}, {Value: 7, Lock: mine(1)}}},
		{Outs: []api.Out{{Value: 7, Lock: mine(1)}, {Value: 7, Lock: mine(0)}, {Value: 5, Lock: mine(0)}}, Tag: 1},
		{Outs: manyOuts(api.MaxIO)},
		{Outs: []api.Out{{Value: 1, Lock: mine(0)}, {Value: 9, Lock: mine(0)}, {Value: 7, Lock: mine(0)}}, Tag: 2},
		{Outs: []api.Out{{Value: 7, Lock: mine(0)}}, Tag: 3},
	}
	var want []api.Coin
	for i, x := range txs {
		for n := range x.Outs {
			want = append(want, coin(t, x, n, i))
		}
	}
	slices.SortFunc(want, func(a, b api.Coin) int {
		switch {
		case a.Out.Value != b.Out.Value:
			return int(b.Out.Value - a.Out.Value)
		case a.Point.Tx != b.Point.Tx && a.Point.Tx < b.Point.Tx:
			return -1
		case a.Point.Tx != b.Point.Tx:
			return 1
		}
		return a.Point.N - b.Point.N
	})
	for _, order := range [][]int{{0, 1, 2, 3, 4}, {4, 3, 2, 1, 0}, {2, 4, 1, 0, 3}} {
		w := opened(t, 2)
		for _, i := range order {
			takes(t, w, txs[i], i)
		}
		for range 10 {
			has(t, w, want...)
		}
	}
}

func TestP17_4Balance(t *testing.T) {
	w, l := made(t, 1, 20, 300, 4000)
	balances(t, w, 4321, 4321)
	a := funded(t, w, 4000, 0)
	balances(t, w, 4321, 321)
	b := funded(t, w, 301, 0)
	balances(t, w, 4321, 1)
	takesBack(t, w, l[0])
	balances(t, w, 4320, 0)
	frees(t, w, a.Tx)
	balances(t, w, 4320, 4000)
	takes(t, w, b.Tx, 9)
	balances(t, w, 4000, 4000)
}

// TestP17_4More: coins may come to more than there is.
func TestP17_4More(t *testing.T) {
	w, _ := made(t, api.MaxCoin, api.MaxCoin, api.MaxCoin)
	balances(t, w, 3*api.MaxCoin, 3*api.MaxCoin)
}

func TestP17_6Free(t *testing.T) {
	w, l := made(t, 1000, 2000, 3000)
	a := funded(t, w, 3000, 0)
	b := funded(t, w, 2500, 0)
	balances(t, w, 6000, 0)
	frees(t, w, api.Tx{Ins: spending(foreign(0), point(t, l[1], 0), point(t, l[2], 0)), Outs: []api.Out{{Value: 1, Lock: theirs}}, Tag: 9})
	balances(t, w, 6000, 5000)
	frees(t, w, b.Tx)
	balances(t, w, 6000, 6000)
	frees(t, w, a.Tx)
	balances(t, w, 6000, 6000)
	has(t, w, coin(t, l[2], 0, 2), coin(t, l[1], 0, 1), coin(t, l[0], 0, 0))
	again := funded(t, w, 3000, 0)
	is(t, "what is funded again", tell(again), tell(a))
}

// TestP17_6NotHad: coins that aren't had don't come by it, nor does what isn't set aside change.
func TestP17_6NotHad(t *testing.T) {
	w, l := made(t, 1000, 2000)
	s := funded(t, w, 2000, 0)
	takes(t, w, s.Tx, 5)
	was := all(w)
	frees(t, w, s.Tx)
	frees(t, w, l[0])
	frees(t, w, l[1])
	frees(t, w, api.Tx{Ins: spending(point(t, l[0], 0), point(t, l[1], 0), api.Point{Tx: idOf(t, l[0]), N: 1}), Outs: []api.Out{{Value: 1, Lock: theirs}}})
	is(t, "the wallet", all(w), was)
	takesBack(t, w, s.Tx)
	frees(t, w, s.Tx)
	has(t, w, coin(t, l[1], 0, 1), coin(t, l[0], 0, 0))
}

func TestP17_6Wrong(t *testing.T) {
	w, l := made(t, 1000, 2000)
	funded(t, w, 2500, 0)
	for _, x := range wrongTxs(point(t, l[0], 0)) {
		refusesFree(t, w, x)
	}
	balances(t, w, 3000, 0)
}
