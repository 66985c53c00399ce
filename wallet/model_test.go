package wallet

import (
	"fmt"
	"math/big"
	"math/rand"
	"slices"
	"strings"
	"testing"

	"sluiceway/api"
	"sluiceway/lock"
	"sluiceway/term"
	"sluiceway/tx"
)

// A model is a wallet by the chapter's words alone: lists that are looked through, whole numbers without bounds, terms written by hand.
type model struct {
	root  api.Term
	given int
	had   []held
	taken []standing
}

type held struct {
	api.Coin
	number int
	aside  bool
}

type standing struct {
	id    string
	spent []held
}

func (m *model) address() (api.Lock, api.Errno) {
	l := ownLock(m.root, m.given)
	if !term.Right(l.Term) {
		return api.Lock{}, api.ErrLimit
	}
	m.given++
	return l, api.OK
}

// stands is the place of a transaction that was taken; -1 without one.
func (m *model) stands(x api.Tx) int {
	return slices.IndexFunc(m.taken, func(s standing) bool { return s.id == mustID(x) })
}

func (m *model) take(x api.Tx, at int) api.Errno {
	if !tx.Right(x) || m.stands(x) >= 0 {
		return api.ErrTx
	}
	s := standing{id: mustID(x)}
	for _, in := range x.Ins {
		for i, c := range m.had {
			if c.Point == in.Point {
				s.spent = append(s.spent, c)
				m.had = slices.Delete(m.had, i, i+1)
				break
			}
		}
	}
	m.taken = append(m.taken, s)
	for n, o := range x.Outs {
		for number := range m.given {
			if tell(o.Lock) == tell(ownLock(m.root, number)) {
				m.have(held{Coin: api.Coin{Point: api.Point{Tx: s.id, N: n}, Out: o, At: at}, number: number})
			}
		}
	}
	return api.OK
}

// have puts a coin in the place of one of the same point, if there is one.
func (m *model) have(c held) {
	c.aside = false
	m.lose(c.Point)
	m.had = append(m.had, c)
}

func (m *model) lose(p api.Point) {
	m.had = slices.DeleteFunc(m.had, func(c held) bool { return c.Point == p })
}

func (m *model) back(x api.Tx) api.Errno {
	if !tx.Right(x) || m.stands(x) < 0 {
		return api.ErrTx
	}
	i := m.stands(x)
	s := m.taken[i]
	m.taken = slices.Delete(m.taken, i, i+1)
	for n := range x.Outs {
		m.lose(api.Point{Tx: s.id, N: n})
	}
	for _, c := range s.spent {
		m.have(c)
	}
	return api.OK
}

// sorted picks the first one again and again.
func (m *model) sorted() []held {
	rest, l := slices.Clone(m.had), []held{}
	for len(rest) > 0 {
		best := 0
		for i, c := range rest {
			if isAhead(c, rest[best]) {
				best = i
			}
		}
		l = append(l, rest[best])
		rest = slices.Delete(rest, best, best+1)
	}
	return l
}

func isAhead(a, b held) bool {
	if a.Out.Value != b.Out.Value {
		return a.Out.Value > b.Out.Value
	}
	if a.Point.Tx != b.Point.Tx {
		return a.Point.Tx < b.Point.Tx
	}
	return a.Point.N < b.Point.N
}

func (m *model) coins() []api.Coin {
	var l []api.Coin
	for _, c := range m.sorted() {
		l = append(l, c.Coin)
	}
	return l
}

func (m *model) balance() (int64, int64) {
	all, aside := int64(0), int64(0)
	for _, c := range m.had {
		all += c.Out.Value
		if c.aside {
			aside += c.Out.Value
		}
	}
	return all, all - aside
}

// cost is that of a transaction with so many Ins and Outs; false, if it's more than there is.
func cost(rate int64, ins, outs int) (*big.Int, bool) {
	c := new(big.Int).Mul(big.NewInt(rate), big.NewInt(int64(100+200*ins+100*outs)))
	c.Div(c, big.NewInt(1000))
	return c, c.Cmp(big.NewInt(api.MaxCoin)) <= 0
}

// left is what these coins come to, less a value and a cost.
func left(l []held, value int64, cost *big.Int) *big.Int {
	sum := new(big.Int)
	for _, c := range l {
		sum.Add(sum, big.NewInt(c.Out.Value))
	}
	return sum.Sub(sum, new(big.Int).Add(big.NewInt(value), cost))
}

func (m *model) choose(value, rate int64) ([]held, api.Errno) {
	free := slices.DeleteFunc(m.sorted(), func(c held) bool { return c.aside })
	for k := 1; k <= 64 && k <= len(free); k++ {
		c, ok := cost(rate, k, 1)
		if !ok {
			return nil, api.ErrMoney
		}
		if left(free[:k], value, c).Sign() >= 0 {
			return free[:k], api.OK
		}
	}
	return nil, api.ErrFunds
}

func (m *model) fund(l api.Lock, value, rate int64) (api.Signed, api.Errno) {
	if !lock.Right(l) {
		return api.Signed{}, api.ErrLock
	}
	if value < 1 || value > api.MaxCoin || rate < 0 || rate > api.MaxCoin {
		return api.Signed{}, api.ErrMoney
	}
	chosen, e := m.choose(value, rate)
	if e != api.OK {
		return api.Signed{}, e
	}
	x := api.Tx{Outs: []api.Out{{Value: value, Lock: l}}}
	for _, c := range chosen {
		x.Ins = append(x.Ins, api.In{Point: c.Point})
	}
	was := m.given
	if c, ok := cost(rate, len(chosen), 2); ok && left(chosen, value, c).Cmp(big.NewInt(546)) >= 0 {
		change, e := m.address()
		if e != api.OK {
			return api.Signed{}, e
		}
		x.Outs = append(x.Outs, api.Out{Value: left(chosen, value, c).Int64(), Lock: change})
	}
	if !tx.Right(x) {
		m.given = was
		return api.Signed{}, api.ErrTx
	}
	s := api.Signed{Tx: x}
	for _, c := range chosen {
		sig := "S" + ownSecret(m.root, c.number) + word(mustID(x))
		if !term.Right(sig) {
			m.given = was
			return api.Signed{}, api.ErrLimit
		}
		s.Wits = append(s.Wits, api.Witness{Sigs: []api.Term{sig}})
	}
	m.mark(x, true)
	return s, api.OK
}

func (m *model) mark(x api.Tx, aside bool) {
	for _, in := range x.Ins {
		for i, c := range m.had {
			if c.Point == in.Point {
				m.had[i].aside = aside
			}
		}
	}
}

func (m *model) free(x api.Tx) api.Errno {
	if !tx.Right(x) {
		return api.ErrTx
	}
	m.mark(x, false)
	return api.OK
}

// A drawer draws what is called; it remembers all transactions that it drew, or that were funded, and those of them that stand, as far as it knows.
type drawer struct {
	*rand.Rand
	rich   bool // many coins come to more than there is
	seen   []api.Tx
	stands []api.Tx
}

func pick[T any](d *drawer, l []T) T { return l[d.Intn(len(l))] }

func (d *drawer) value() int64 {
	if d.rich && d.Intn(3) == 0 {
		return api.MaxCoin - int64(d.Intn(2)*d.Intn(10000))
	}
	switch d.Intn(30) {
	case 0:
		return api.MaxCoin
	case 1:
		return api.MaxCoin / 4
	case 2:
		return 1
	case 3, 4:
		return int64(400 + d.Intn(300))
	}
	return int64(1 + d.Intn(20)*1000)
}

func (d *drawer) lock(m *model) api.Lock {
	switch d.Intn(12) {
	case 0:
		return theirs
	case 1:
		return lock.Any(ownLock(m.root, d.Intn(m.given+1)))
	case 2:
		return pick(d, wrongLocks())
	}
	return ownLock(m.root, d.Intn(m.given+2))
}

func (d *drawer) point(m *model) api.Point {
	switch {
	case len(m.had) > 0 && d.Intn(3) > 0:
		return pick(d, m.had).Point
	case len(d.seen) > 0 && d.Intn(3) > 0:
		return api.Point{Tx: mustID(pick(d, d.seen)), N: d.Intn(3)}
	}
	return foreign(d.Intn(9))
}

// fresh draws a transaction, most of them right ones.
func (d *drawer) fresh(m *model) api.Tx {
	x := api.Tx{Tag: int64(d.Intn(1000) - 1)}
	for range d.Intn(4) {
		x.Ins = append(x.Ins, api.In{Point: d.point(m)})
	}
	outs := 1 + d.Intn(3)
	if d.rich {
		outs = 1 // several are seldom no more than there is
	}
	for range outs {
		x.Outs = append(x.Outs, api.Out{Value: d.value(), Lock: d.lock(m)})
	}
	d.seen = append(d.seen, x)
	return x
}

func (d *drawer) tx(m *model) api.Tx {
	switch d.Intn(6) {
	case 0:
		if len(d.seen) > 0 {
			return pick(d, d.seen)
		}
	case 1:
		return pick(d, wrongTxs(d.point(m)))
	}
	return d.fresh(m)
}

// old draws a transaction to take back: often the last one, sometimes another one or one that never stood.
func (d *drawer) old(m *model) api.Tx {
	switch n := len(d.stands); {
	case n == 0 || d.Intn(8) == 0:
		return d.tx(m)
	case d.Intn(3) == 0:
		return pick(d, d.stands)
	default:
		return d.stands[n-1]
	}
}

func (d *drawer) rate() int64 {
	return pick(d, []int64{0, 0, 1, 2, 3, 253, 1000, 1000, 5000, 10000, api.MaxCoin / 13, api.MaxCoin / 2, api.MaxCoin, api.MaxCoin + 1, -1})
}

// asked draws a value to fund: some are at the edge of what is free, less what it costs.
func (d *drawer) asked(m *model, rate int64) int64 {
	if d.Intn(12) == 0 {
		return pick(d, []int64{0, -1, api.MaxCoin, api.MaxCoin + 1})
	}
	if d.rich && d.Intn(3) == 0 {
		return api.MaxCoin - int64(d.Intn(3)*d.Intn(10000))
	}
	_, free := m.balance()
	k := 1 + d.Intn(5)
	if l := m.sorted(); d.Intn(2) == 0 && len(l) >= k {
		free = 0
		for _, c := range l[:k] {
			free += c.Out.Value
		}
	}
	off, ok := cost(max(rate, 0), k, 1+d.Intn(2))
	if d.Intn(3) == 0 || !ok {
		return d.value()
	}
	return free - off.Int64() - pick(d, []int64{-1, 0, 0, 1, 545, 546, 547, 5000})
}

// A match is a wallet and a model, and how often a call answered what.
type match struct {
	t       *testing.T
	w       *Wallet
	m       *model
	answers map[string]int
}

func (x match) alike(what string, have, want api.Errno) {
	x.t.Helper()
	is(x.t, what, have, want)
	x.answers[fmt.Sprintf("%s %d", what[:strings.IndexByte(what, ' ')], have)]++
	is(x.t, "Coins behind "+what, tell(x.w.Coins()), tell(x.m.coins()))
	all, free := x.m.balance()
	balances(x.t, x.w, all, free)
}

func (x match) step(d *drawer) {
	x.t.Helper()
	switch n := d.Intn(20); {
	case n < 2:
		have, e := x.w.Address()
		want, wantE := x.m.address()
		is(x.t, "Address", tell(have), tell(want))
		x.alike("Address ", e, wantE)
	case n < 9:
		y, at := d.tx(x.m), d.Intn(100)
		e := x.w.Take(y, at)
		x.alike("Take of "+mustID(y), e, x.m.take(y, at))
		if e == api.OK {
			d.stands = append(d.stands, y)
		}
	case n < 13:
		y := d.old(x.m)
		x.alike("Back of "+mustID(y), x.w.Back(y), x.m.back(y))
		if i := slices.IndexFunc(d.stands, func(z api.Tx) bool { return mustID(z) == mustID(y) }); i >= 0 {
			d.stands = slices.Delete(d.stands, i, i+1)
		}
	case n < 18:
		l, rate := d.lock(x.m), d.rate()
		value := d.asked(x.m, rate)
		have, e := x.w.Fund(l, value, rate)
		want, wantE := x.m.fund(l, value, rate)
		x.alike(fmt.Sprintf("Fund of %d at %d", value, rate), e, wantE)
		is(x.t, fmt.Sprintf("Fund of %d at %d", value, rate), tell(have), tell(want))
		if e == api.OK {
			d.seen = append(d.seen, have.Tx)
			x.answers[fmt.Sprintf("Fund with %d Outs", len(have.Tx.Outs))]++
			x.answers[fmt.Sprintf("Fund with %d Ins", min(len(have.Tx.Ins), 3))]++
		}
	default:
		y := d.tx(x.m)
		x.alike("Free of "+mustID(y), x.w.Free(y), x.m.free(y))
	}
}

func (x match) atLeast(wants map[string]int) {
	x.t.Helper()
	for what, n := range wants {
		if x.answers[what] < n {
			x.t.Errorf("%s: %d times, want %d at least", what, x.answers[what], n)
		}
	}
}

// TestP17_5Model: drawn calls of all kinds.
func TestP17_5Model(t *testing.T) {
	answers := map[string]int{}
	for round := range int64(300) {
		root := []api.Term{"n1;", "Vn1;n2;", "Kt0:Pn7;"}[round%3]
		w, e := New(root)
		is(t, "New", e, api.OK)
		x, d := match{t, w, &model{root: root}, answers}, &drawer{Rand: rand.New(rand.NewSource(round)), rich: round%5 == 0}
		for range 120 {
			x.step(d)
		}
	}
	match{t: t, answers: answers}.atLeast(map[string]int{
		"Address 0": 1000, "Take 0": 5000, "Take 120": 1000, "Back 0": 2000, "Back 120": 500, "Free 0": 1000, "Free 120": 300,
		"Fund 0": 1000, "Fund 110": 500, "Fund 40": 500, "Fund 170": 500, "Fund 120": 20,
		"Fund with 1 Outs": 300, "Fund with 2 Outs": 300, "Fund with 1 Ins": 300, "Fund with 2 Ins": 200, "Fund with 3 Ins": 150,
	})
}

// TestP17_5ModelLong: the same of roots so long that addresses are refused, or signatures have no room.
func TestP17_5ModelLong(t *testing.T) {
	answers := map[string]int{}
	for round := range int64(12) {
		root := sized(rootRoom - []int{0, 67, 68, 69}[round%4])
		w, e := New(root)
		is(t, "New", e, api.OK)
		x, d := match{t, w, &model{root: root}, answers}, &drawer{Rand: rand.New(rand.NewSource(round))}
		for range 100 {
			x.step(d)
		}
	}
	match{t: t, answers: answers}.atLeast(map[string]int{"Address 0": 30, "Take 0": 50, "Back 0": 20, "Fund 0": 10, "Fund 3": 10})
}

// TestP17_5ModelMany: of more coins than a transaction spends.
func TestP17_5ModelMany(t *testing.T) {
	answers := map[string]int{}
	for round := range int64(80) {
		d := &drawer{Rand: rand.New(rand.NewSource(round))}
		x := match{t, opened(t, 3), &model{root: "n1;", given: 3}, answers}
		for i := range 5 {
			y := api.Tx{Tag: int64(i)}
			for range 16 {
				y.Outs = append(y.Outs, api.Out{Value: int64(1000 + d.Intn(20)*(1+d.Intn(2))), Lock: mine(d.Intn(3))})
			}
			x.alike("Take ", x.w.Take(y, i), x.m.take(y, i))
		}
		for range 12 {
			rate, k := pick(d, []int64{0, 1000, 3000}), pick(d, []int{1, 5, 40, 63, 64, 64, 65})
			sum := int64(0)
			for i, c := range x.m.sorted() {
				if i < k && !c.aside {
					sum += c.Out.Value
				}
			}
			off, _ := cost(rate, min(k, 64), 1+d.Intn(2))
			value := sum - off.Int64() - pick(d, []int64{-1, 0, 1, 545, 546})
			have, e := x.w.Fund(theirs, value, rate)
			want, wantE := x.m.fund(theirs, value, rate)
			x.alike("Fund ", e, wantE)
			is(t, "Fund", tell(have), tell(want))
			if len(have.Tx.Ins) == api.MaxIO {
				answers["all"]++
			}
			if d.Intn(3) > 0 {
				x.alike("Free ", x.w.Free(have.Tx), x.m.free(want.Tx))
			}
		}
	}
	match{t: t, answers: answers}.atLeast(map[string]int{"Fund 0": 200, "Fund 170": 30, "Fund 40": 10, "all": 40})
}
