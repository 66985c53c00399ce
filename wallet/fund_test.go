package wallet

import (
	"fmt"
	"math"
	"slices"
	"strings"
	"testing"

	"sluiceway/api"
	"sluiceway/lock"
	"sluiceway/money"
)

// paying is a transaction that spends the first Out of each of these, for Outs of these values: the first one is theirs, a second one goes to that address.
func paying(t *testing.T, from []api.Tx, change int, values ...int64) api.Tx {
	t.Helper()
	x := api.Tx{Outs: []api.Out{{Value: values[0], Lock: theirs}}}
	for _, f := range from {
		x.Ins = append(x.Ins, api.In{Point: point(t, f, 0)})
	}
	for _, v := range values[1:] {
		x.Outs = append(x.Outs, api.Out{Value: v, Lock: mine(change)})
	}
	return x
}

// pays asks that a new wallet with these coins funds a value at a rate with k of them, and that the Outs have these values.
func pays(t *testing.T, coins []int64, value, rate int64, k int, outs ...int64) {
	t.Helper()
	w, l := made(t, coins...)
	sorted := order(l)
	x := paying(t, pickTxs(l, sorted[:k]), len(l), outs...)
	funds(t, w, theirs, value, rate, signed(t, x, secretsOf(sorted[:k])...))
	sum, free := int64(0), int64(0)
	for i, n := range sorted {
		sum += l[n].Outs[0].Value
		if i >= k {
			free += l[n].Outs[0].Value
		}
	}
	balances(t, w, sum, free)
	gives(t, w, mine(len(l)+len(outs)-1))
}

// lacks asks that a new wallet with these coins does not fund a value at a rate.
func lacks(t *testing.T, coins []int64, value, rate int64, want api.Errno) {
	t.Helper()
	w, l := made(t, coins...)
	refusesFund(t, w, theirs, value, rate, want)
	gives(t, w, mine(len(l)))
}

// order are the places of transactions of one Out each, in the order of their coins.
func order(l []api.Tx) []int {
	var places []int
	for i := range l {
		places = append(places, i)
	}
	slices.SortFunc(places, func(a, b int) int {
		if d := l[b].Outs[0].Value - l[a].Outs[0].Value; d != 0 {
			return int(d)
		}
		return strings.Compare(mustID(l[a]), mustID(l[b]))
	})
	return places
}

func pickTxs(l []api.Tx, places []int) []api.Tx {
	var picked []api.Tx
	for _, i := range places {
		picked = append(picked, l[i])
	}
	return picked
}

func secretsOf(places []int) []api.Term {
	var l []api.Term
	for _, n := range places {
		l = append(l, ownSecret("n1;", n))
	}
	return l
}

// alike are so many values.
func alike(n int, value int64) []int64 { return slices.Repeat([]int64{value}, n) }

func TestP17_5Fund(t *testing.T) {
	w, l := made(t, 700, 10000)
	a := paying(t, l[1:], 2, 5000, 4500)
	funds(t, w, theirs, 5000, 1000, signed(t, a, ownSecret("n1;", 1)))
	balances(t, w, 10700, 700)
	refusesFund(t, w, theirs, 5000, 1000, api.ErrFunds)
	takes(t, w, a, 5)
	has(t, w, coin(t, a, 1, 5), coin(t, l[0], 0, 0))
	b := api.Tx{Ins: spending(point(t, a, 1), point(t, l[0], 0)), Outs: []api.Out{{Value: 4600, Lock: theirs}}}
	funds(t, w, theirs, 4600, 1000, signed(t, b, ownSecret("n1;", 2), ownSecret("n1;", 0)))
	balances(t, w, 5200, 0)
	gives(t, w, mine(3))
}

// TestP17_5Examples: the chapter's.
func TestP17_5Examples(t *testing.T) {
	pays(t, []int64{10000}, 5000, 1000, 1, 5000, 4500)
	pays(t, []int64{10000}, 9500, 1000, 1, 9500)
	lacks(t, []int64{10000}, 9700, 1000, api.ErrFunds)
	lacks(t, []int64{10000}, 0, 1, api.ErrMoney)
}

func TestP17_5Lock(t *testing.T) {
	w, _ := made(t, 700, 10000)
	for _, x := range wrongLocks() {
		refusesFund(t, w, x, 100, 1, api.ErrLock)
		refusesFund(t, w, x, 0, -1, api.ErrLock)
		refusesFund(t, w, x, 100000, 1, api.ErrLock)
		refusesFund(t, opened(t, 0), x, api.MaxCoin+1, 1, api.ErrLock)
	}
}

// TestP17_5Locks: any right lock will do, an address too.
func TestP17_5Locks(t *testing.T) {
	for _, x := range []api.Lock{
		lock.Sig("Pn7;"), lock.Pre("Hn7;"), lock.After(0), lock.Older(1<<30 - 1), lock.Any(lock.All(mine(0), lock.After(5)), mine(1), mine(1)), lock.Sig("P" + sized(api.MaxTerm-1)), mine(0), mine(1),
	} {
		w, l := made(t, 1000)
		want := api.Tx{Ins: spending(point(t, l[0], 0)), Outs: []api.Out{{Value: 400, Lock: x}, {Value: 600, Lock: mine(1)}}}
		s := funds(t, w, x, 400, 0, signed(t, want, ownSecret("n1;", 0)))
		takes(t, w, s.Tx, 3)
		if x.Kind == api.LSig && (x.Term == mine(0).Term || x.Term == mine(1).Term) {
			has(t, w, coin(t, want, 1, 3), coin(t, want, 0, 3))
		} else {
			has(t, w, coin(t, want, 1, 3))
		}
	}
}

func TestP17_5Money(t *testing.T) {
	for _, w := range []*Wallet{opened(t, 0), first(made(t, 10000)), first(made(t, api.MaxCoin, api.MaxCoin))} {
		for _, bad := range []int64{-1, api.MaxCoin + 1, api.MaxMoney, math.MinInt64, math.MaxInt64} {
			refusesFund(t, w, theirs, bad, 1, api.ErrMoney)
			refusesFund(t, w, theirs, 1, bad, api.ErrMoney)
			refusesFund(t, w, theirs, bad, bad, api.ErrMoney)
		}
		refusesFund(t, w, theirs, 0, 0, api.ErrMoney)
		refusesFund(t, w, theirs, 0, 1, api.ErrMoney)
	}
}

func first(w *Wallet, _ []api.Tx) *Wallet { return w }

// TestP17_5Least: the least and the greatest values and rates.
func TestP17_5Least(t *testing.T) {
	pays(t, []int64{1}, 1, 0, 1, 1)
	pays(t, []int64{1}, 1, 1, 1, 1)
	pays(t, []int64{1}, 1, 2, 1, 1)
	lacks(t, []int64{1}, 1, 3, api.ErrFunds)
	pays(t, []int64{2}, 1, 3, 1, 1)
	lacks(t, []int64{1}, 2, 0, api.ErrFunds)
	lacks(t, nil, 1, 0, api.ErrFunds)
	lacks(t, nil, api.MaxCoin, api.MaxCoin, api.ErrFunds)
	pays(t, []int64{api.MaxCoin}, api.MaxCoin, 0, 1, api.MaxCoin)
	pays(t, []int64{api.MaxCoin}, 1, 0, 1, 1, api.MaxCoin-1)
	pays(t, []int64{api.MaxCoin}, api.MaxCoin, 2, 1, api.MaxCoin)
	lacks(t, []int64{api.MaxCoin}, api.MaxCoin, 3, api.ErrFunds)
	lacks(t, []int64{api.MaxCoin - 1}, api.MaxCoin, 0, api.ErrFunds)
	most := int64(api.MaxCoin / 10 * 6)
	pays(t, []int64{api.MaxCoin}, most, api.MaxCoin, 1, most)
	lacks(t, []int64{api.MaxCoin}, most+1, api.MaxCoin, api.ErrFunds)
	half := int64(api.MaxCoin / 2)
	pays(t, []int64{api.MaxCoin}, half-546, api.MaxCoin, 1, half-546, 546)
	pays(t, []int64{api.MaxCoin}, half-545, api.MaxCoin, 1, half-545)
}

// TestP17_5JustDo: one satoshi less does not, with one, two and three coins.
func TestP17_5JustDo(t *testing.T) {
	pays(t, []int64{5400}, 5000, 1000, 1, 5000)
	lacks(t, []int64{5399}, 5000, 1000, api.ErrFunds)
	pays(t, []int64{3000, 2600}, 5000, 1000, 2, 5000)
	lacks(t, []int64{3000, 2599}, 5000, 1000, api.ErrFunds)
	pays(t, []int64{5399, 201}, 5000, 1000, 2, 5000)
	lacks(t, []int64{5399, 200}, 5000, 1000, api.ErrFunds)
	pays(t, []int64{2000, 1900, 1900}, 5000, 1000, 3, 5000)
	lacks(t, []int64{2000, 1900, 1899}, 5000, 1000, api.ErrFunds)
}

// TestP17_5LeastK: no more coins than do, the greatest first; also where those behind would do by themselves, or bring less than they cost.
func TestP17_5LeastK(t *testing.T) {
	pays(t, []int64{5400, 20000, 5400}, 5000, 1000, 1, 5000, 14500)
	pays(t, []int64{1, 5400, 5399}, 5000, 1000, 1, 5000)
	pays(t, []int64{600, 3000, 3000, 500, 3000}, 5000, 1000, 2, 5000)
	pays(t, []int64{600, 3000, 3000, 500, 3000}, 5401, 1000, 3, 5401, 2699)
	lacks(t, append(alike(60, 199), 5399), 5000, 1000, api.ErrFunds)
	lacks(t, append(alike(60, 200), 5399), 5000, 1000, api.ErrFunds)
	pays(t, append(alike(60, 201), 5395), 5000, 1000, 6, 5000)
	pays(t, []int64{2000, 2000, 2000, 2000}, 5000, 1000, 3, 5000)
	pays(t, []int64{2000, 2000, 2000, 2000}, 5200, 1000, 3, 5200)
	pays(t, []int64{2000, 2000, 2000, 2000}, 5201, 1000, 4, 5201, 1699)
}

// TestP17_5Change: what is left makes an Out from 546 on.
func TestP17_5Change(t *testing.T) {
	for left := int64(540); left < 552; left++ {
		outs, outs2, outs3 := []int64{5000}, []int64{5000}, []int64{7000}
		if left >= 546 {
			outs, outs2, outs3 = append(outs, left), append(outs2, left), append(outs3, left)
		}
		pays(t, []int64{5500 + left}, 5000, 1000, 1, outs...)
		pays(t, []int64{5000 + left}, 5000, 0, 1, outs2...)
		pays(t, []int64{4000, 3700 + left}, 7000, 1000, 2, outs3...)
	}
}

// TestP17_5ChangeAddress: the next address is given out with an Out of what is left, and with it alone.
func TestP17_5ChangeAddress(t *testing.T) {
	w, l := made(t, 1000, 2000, 3000, 4000)
	funds(t, w, theirs, 4000, 0, signed(t, paying(t, l[3:], 4, 4000), ownSecret("n1;", 3)))
	funds(t, w, theirs, 2000, 0, signed(t, paying(t, l[2:3], 4, 2000, 1000), ownSecret("n1;", 2)))
	gives(t, w, mine(5))
	funds(t, w, theirs, 1000, 0, signed(t, paying(t, l[1:2], 6, 1000, 1000), ownSecret("n1;", 1)))
	refusesFund(t, w, theirs, 1001, 0, api.ErrFunds)
	funds(t, w, theirs, 454, 0, signed(t, paying(t, l[:1], 7, 454, 546), ownSecret("n1;", 0)))
	gives(t, w, mine(8))
}

func TestP17_5MaxIO(t *testing.T) {
	pays(t, alike(64, 10), 640, 0, 64, 640)
	pays(t, alike(65, 10), 640, 0, 64, 640)
	lacks(t, alike(65, 10), 641, 0, api.ErrFunds)
	lacks(t, alike(100, 10), 641, 0, api.ErrFunds)
	lacks(t, alike(64, 10), 641, 0, api.ErrFunds)
	pays(t, alike(63, 10), 630, 0, 63, 630)
	pays(t, alike(70, 1000), 64000-13000, 1000, 64, 64000-13000)
	lacks(t, alike(70, 1000), 64001-13000, 1000, api.ErrFunds)
	pays(t, append(alike(70, 1000), 1600), 64600-13100-546, 1000, 64, 64600-13100-546, 546)
	pays(t, append(alike(70, 1000), 1600), 64600-13100-545, 1000, 64, 64600-13100-545)
}

// TestP17_5Cost: a cost that is refused is answered if it's met ahead of coins that do; one of a second Out makes none.
func TestP17_5Cost(t *testing.T) {
	lacks(t, alike(5, 10), 1, api.MaxCoin, api.ErrMoney)
	lacks(t, alike(60, 10), 1, api.MaxCoin, api.ErrMoney)
	lacks(t, alike(4, 10), 1, api.MaxCoin, api.ErrFunds)
	tenth := int64(api.MaxCoin / 10)
	pays(t, alike(6, 3*tenth), tenth, api.MaxCoin, 3, tenth)
	pays(t, alike(4, 3*tenth-5), tenth, api.MaxCoin, 4, tenth)
	pays(t, alike(6, 3*tenth-5), tenth, api.MaxCoin, 4, tenth)
	lacks(t, alike(4, 2*tenth), tenth, api.MaxCoin, api.ErrFunds)
	lacks(t, alike(5, 2*tenth), tenth, api.MaxCoin, api.ErrMoney)
	rate := int64(api.MaxCoin/13100*1000 + 1000)
	cost, e := money.Cost(rate, 13000)
	is(t, "the cost of 64 Ins and an Out", e, api.OK)
	_, e = money.Cost(rate, 13100)
	is(t, "the cost of 64 Ins and two Outs", e, api.ErrMoney)
	each := (1000+cost)/64 + 1
	is(t, "there are so many coins", 64*each < api.MaxCoin, true)
	pays(t, alike(64, each), 1000, rate, 64, 1000)
	lacks(t, alike(64, each-1), 1000, rate, api.ErrFunds)
}

// TestP17_5More: coins that come to more than there is, where the Outs do, and where they don't.
func TestP17_5More(t *testing.T) {
	lacks(t, []int64{api.MaxCoin, api.MaxCoin}, api.MaxCoin, 3, api.ErrTx)
	lacks(t, []int64{api.MaxCoin, 7001}, api.MaxCoin-3000, 10000, api.ErrTx)
	pays(t, []int64{api.MaxCoin, 7000}, api.MaxCoin-3000, 10000, 2, api.MaxCoin-3000, 3000)
	pays(t, []int64{api.MaxCoin, 4546}, api.MaxCoin-3000, 10000, 2, api.MaxCoin-3000, 546)
	pays(t, []int64{api.MaxCoin, 4545}, api.MaxCoin-3000, 10000, 2, api.MaxCoin-3000)
	pays(t, []int64{api.MaxCoin, 7000 + 545}, api.MaxCoin, 10000, 2, api.MaxCoin)
	lacks(t, []int64{api.MaxCoin, 7000 + 546}, api.MaxCoin, 10000, api.ErrTx)
	pays(t, []int64{api.MaxCoin, api.MaxCoin}, 1, 1000, 1, 1, api.MaxCoin-501)
}

// TestP17_5Refused: what is left has no address, or the signature no room: nothing changes.
func TestP17_5Refused(t *testing.T) {
	for _, given := range []int{9, 10} {
		root := sized(rootRoom)
		w, _ := madeOf(t, root, append(alike(given-2, 1), api.MaxCoin, api.MaxCoin)...)
		if given == 9 {
			refusesFund(t, w, theirs, api.MaxCoin, 3, api.ErrTx)
			gives(t, w, ownLock(root, 9))
		}
		refusesFund(t, w, theirs, api.MaxCoin, 3, api.ErrLimit)
		refusesFund(t, w, theirs, 1000, 0, api.ErrLimit)
		refusesFund(t, w, theirs, api.MaxCoin, 0, api.ErrLimit)
		refusesFund(t, w, theirs, 0, 0, api.ErrMoney)
		refusesAddress(t, w, api.ErrLimit)
	}
}

// TestP17_5Room: the message of a signature has 68 bytes.
func TestP17_5Room(t *testing.T) {
	for _, longer := range []int{-1, 0, 1, 60} {
		root := sized(rootRoom - 68 + longer)
		w, l := madeOf(t, root, 1000)
		if longer > 0 {
			refusesFund(t, w, theirs, 1000, 0, api.ErrLimit)
			refusesFund(t, w, theirs, 100, 0, api.ErrLimit)
			gives(t, w, ownLock(root, 1))
			continue
		}
		x := api.Tx{Ins: spending(point(t, l[0], 0)), Outs: []api.Out{{Value: 100, Lock: theirs}, {Value: 900, Lock: ownLock(root, 1)}}}
		funds(t, w, theirs, 100, 0, signed(t, x, ownSecret(root, 0)))
	}
}

// TestP17_5Aside: what is set aside is not chosen, and is no more once it was freed.
func TestP17_5Aside(t *testing.T) {
	w, l := made(t, 1000, 2000, 3000)
	a := funds(t, w, theirs, 3000, 0, signed(t, paying(t, l[2:], 3, 3000), ownSecret("n1;", 2)))
	funds(t, w, theirs, 2000, 0, signed(t, paying(t, l[1:2], 3, 2000), ownSecret("n1;", 1)))
	refusesFund(t, w, theirs, 1001, 0, api.ErrFunds)
	frees(t, w, a.Tx)
	x := paying(t, []api.Tx{l[2], l[0]}, 3, 3001, 999)
	funds(t, w, theirs, 3001, 0, signed(t, x, ownSecret("n1;", 2), ownSecret("n1;", 0)))
	refusesFund(t, w, theirs, 1, 0, api.ErrFunds)
	balances(t, w, 6000, 0)
}

// TestP17_5Order: coins of like values and of like Txs.
func TestP17_5Order(t *testing.T) {
	w := opened(t, 3)
	x := api.Tx{Outs: []api.Out{{Value: 5, Lock: mine(2)}, {Value: 6, Lock: mine(0)}, {Value: 5, Lock: mine(1)}, {Value: 5, Lock: mine(0)}}}
	takes(t, w, x, 1)
	at := func(n ...int) api.Tx {
		var l []api.Point
		sum := int64(0)
		for _, i := range n {
			l = append(l, point(t, x, i))
			sum += x.Outs[i].Value
		}
		return api.Tx{Ins: spending(l...), Outs: []api.Out{{Value: sum, Lock: theirs}}}
	}
	a := at(1, 0)
	funds(t, w, theirs, 11, 0, signed(t, a, ownSecret("n1;", 0), ownSecret("n1;", 2)))
	funds(t, w, theirs, 10, 0, signed(t, at(2, 3), ownSecret("n1;", 1), ownSecret("n1;", 0)))
	frees(t, w, a)
	funds(t, w, theirs, 11, 0, signed(t, a, ownSecret("n1;", 0), ownSecret("n1;", 2)))
}

// TestP17_5Many: each coin is signed for by its own secret, among many of them.
func TestP17_5Many(t *testing.T) {
	w, l := made(t, 100, 300, 200, 500, 400, 900, 800, 700, 600, 1000, 1200, 1100)
	want := []int{10, 11, 9, 5, 6, 7, 8, 3, 4, 1, 2, 0}
	x := paying(t, pickTxs(l, want), 0, 7800)
	s := funds(t, w, theirs, 7800, 0, signed(t, x, secretsOf(want)...))
	is(t, "After and Tag", fmt.Sprint(s.Tx.After, s.Tx.Tag), "0 0")
}
