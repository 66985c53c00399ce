package chain

import (
	"cmp"
	"fmt"
	"math"
	"math/rand"
	"slices"
	"strings"
	"testing"

	"sluiceway/api"
	"sluiceway/lock"
	"sluiceway/tx"
)

// A model is a ledger made by other means: its blocks alone. All else is looked for in them, each time anew.
type model struct{ blocks []api.Block }

func newModel(first []api.Out) model {
	return model{[]api.Block{block(api.Signed{Tx: api.Tx{Outs: first}})}}
}

func (m model) height() int { return len(m.blocks) - 1 }

// with is the model with these transactions in the block of that number.
func (m model) with(at int, txs []api.Signed) model {
	l := slices.Clone(m.blocks)
	for len(l) < at {
		l = append(l, api.Block{})
	}
	return model{append(l, block(slices.Clone(txs)...))}
}

func (m model) tx(id string) (api.Signed, int, bool) {
	for at, b := range m.blocks {
		for _, s := range b.Txs {
			if is, _ := tx.ID(s.Tx); is == id {
				return s, at, true
			}
		}
	}
	return api.Signed{}, 0, false
}

func (m model) isSpent(p api.Point) bool {
	for _, b := range m.blocks {
		for _, s := range b.Txs {
			if slices.ContainsFunc(s.Tx.Ins, func(in api.In) bool { return in.Point == p }) {
				return true
			}
		}
	}
	return false
}

func (m model) coin(p api.Point) (api.Coin, bool) {
	s, at, ok := m.tx(p.Tx)
	if !ok || p.N < 0 || p.N >= len(s.Tx.Outs) || m.isSpent(p) {
		return api.Coin{}, false
	}
	return api.Coin{Point: p, Out: s.Tx.Outs[p.N], At: at}, true
}

func (m model) coins() []api.Coin {
	var l []api.Coin
	for _, b := range m.blocks {
		for _, s := range b.Txs {
			id, _ := tx.ID(s.Tx)
			for n := range s.Tx.Outs {
				if coin, ok := m.coin(api.Point{Tx: id, N: n}); ok {
					l = append(l, coin)
				}
			}
		}
	}
	slices.SortFunc(l, func(a, b api.Coin) int {
		return cmp.Or(cmp.Compare(a.Point.Tx, b.Point.Tx), cmp.Compare(a.Point.N, b.Point.N))
	})
	return l
}

// mayStand is the chapter's row of errors, word by word; at is the number of the model's last block, or of one behind it.
func (m model) mayStand(s api.Signed, at int) api.Errno {
	if !tx.Whole(s) {
		return api.ErrTx
	}
	id, _ := tx.ID(s.Tx)
	if _, _, stands := m.tx(id); stands {
		return api.ErrTwice
	}
	for _, in := range s.Tx.Ins {
		if _, ok := m.coin(in.Point); !ok {
			return api.ErrSpent
		}
	}
	if s.Tx.After > at {
		return api.ErrEarly
	}
	sum := int64(0)
	for _, in := range s.Tx.Ins {
		coin, _ := m.coin(in.Point)
		sum += coin.Out.Value
		if in.Age > at-coin.At {
			return api.ErrEarly
		}
	}
	for i, in := range s.Tx.Ins {
		if coin, _ := m.coin(in.Point); !tx.Opens(s, i, coin.Out.Lock) {
			return api.ErrShut
		}
	}
	for _, o := range s.Tx.Outs {
		sum -= o.Value
	}
	if sum < 0 {
		return api.ErrMoney
	}
	return api.OK
}

func (m model) check(s api.Signed, at int) api.Errno {
	if at <= m.height() || at > 1<<30 {
		return api.ErrArg
	}
	return m.mayStand(s, at)
}

func (m *model) mine(b api.Block) api.Errno {
	if len(b.Txs) > 64 {
		return api.ErrBlock
	}
	at := m.height() + 1
	for n, s := range b.Txs {
		if e := m.with(at, b.Txs[:n]).mayStand(s, at); e != api.OK {
			return e
		}
	}
	*m = m.with(at, b.Txs)
	return api.OK
}

func (m *model) back(n int) api.Errno {
	switch {
	case n < 0:
		return api.ErrArg
	case n > 6 || n > m.height():
		return api.ErrReorg
	}
	m.blocks = m.blocks[:len(m.blocks)-n]
	return api.OK
}

// tell is what tell of a ledger with these blocks is to be.
func (m model) tell() string {
	var b strings.Builder
	fmt.Fprintf(&b, "height %d\n", m.height())
	for at, x := range m.blocks {
		fmt.Fprintf(&b, "block %d %+v %t\n", at, x, true)
		for _, s := range x.Txs {
			id, _ := tx.ID(s.Tx)
			told, place, ok := m.tx(id)
			fmt.Fprintf(&b, "tx %s %+v %d %t\n", id, told, place, ok)
			for n := range s.Tx.Outs {
				coin, ok := m.coin(api.Point{Tx: id, N: n})
				fmt.Fprintf(&b, "coin %d %+v %t\n", n, coin, ok)
			}
		}
	}
	fmt.Fprintf(&b, "coins %+v\n", m.coins())
	return b.String()
}

// A drawer draws what is done to a ledger, so that much of it may stand, and much may just not.
type drawer struct {
	*rand.Rand
	met []api.Coin
	txs []api.Signed
}

func (d *drawer) lock() api.Lock {
	switch d.Intn(8) {
	case 0:
		return lock.Pre("Hn7;")
	case 1:
		return lock.Older(d.Intn(3))
	case 2:
		return lock.All(keyLock(1+d.Intn(2)), lock.After(d.Intn(8)))
	case 3:
		return lock.Any(keyLock(2), lock.All(keyLock(1), lock.Older(1)))
	}
	return keyLock(1 + d.Intn(2))
}

func (d *drawer) outs(all int64) []api.Out {
	var l []api.Out
	for n := 1 + d.Intn(3); n > 1 && all > int64(n); n-- {
		part := 1 + d.Int63n(all-int64(n))
		l, all = append(l, api.Out{Value: part, Lock: d.lock()}), all-part
	}
	return append(l, api.Out{Value: max(all, 1), Lock: d.lock()})
}

// few is mostly 0.
func (d *drawer) few(n int) int { return max(0, d.Intn(4*n)-3*n) }

// tx spends coins that were met, newer ones more often, whether they stand or not.
func (d *drawer) tx(height int) api.Signed {
	x, sum := api.Tx{Tag: int64(d.Intn(2)), After: d.few(height + 3)}, int64(0)
	for range 1 + d.few(3) {
		coin := d.met[max(0, len(d.met)-1-d.few(1+len(d.met)))]
		if d.Intn(2) == 0 {
			coin = d.met[d.Intn(len(d.met))]
		}
		if slices.ContainsFunc(x.Ins, func(in api.In) bool { return in.Point == coin.Point }) {
			continue
		}
		sum += coin.Out.Value
		x.Ins = append(x.Ins, api.In{Point: coin.Point, Age: d.few(3)})
	}
	x.Outs = d.outs(max(1, sum+int64(d.few(2)-d.few(3))))
	s := api.Signed{Tx: x, Wits: make([]api.Witness, len(x.Ins))}
	for i := range s.Wits {
		s.Wits[i] = d.witness(x)
	}
	return s
}

func (d *drawer) witness(x api.Tx) api.Witness {
	var w api.Witness
	for name := 1; name < 4; name++ {
		sig, e := tx.Sign(x, secret(name))
		if e == api.OK && d.Intn(12) > 0 {
			w.Sigs = append(w.Sigs, sig)
		}
	}
	if d.Intn(8) > 0 {
		w.Pres = []api.Term{"n7;"}
	}
	return w
}

// one is a new transaction, one that was there already, or one that is spoilt. What it makes may be spent from now on.
func (d *drawer) one(height int) api.Signed {
	if len(d.txs) > 0 && d.Intn(6) == 0 {
		return d.txs[d.Intn(len(d.txs))]
	}
	s := d.tx(height)
	if d.Intn(15) == 0 {
		return d.spoilt(s)
	}
	d.meet(s)
	return s
}

func (d *drawer) meet(s api.Signed) {
	id, e := tx.ID(s.Tx)
	if e != api.OK {
		return
	}
	d.txs = append(d.txs, s)
	for n, o := range s.Tx.Outs {
		d.met = append(d.met, api.Coin{Point: api.Point{Tx: id, N: n}, Out: o})
	}
}

// spoilt has one part that is another, mostly a wrong one.
func (d *drawer) spoilt(s api.Signed) api.Signed {
	wild := []int{math.MinInt, -1, 0, 1, 63, 64, 1 << 30, 1<<30 - 1, math.MaxInt}[d.Intn(9)]
	s.Tx.Ins, s.Tx.Outs = slices.Clone(s.Tx.Ins), slices.Clone(s.Tx.Outs)
	switch d.Intn(9) {
	case 0:
		s.Tx.After = wild
	case 1:
		s.Tx.Tag = int64(wild)
	case 2:
		s.Tx.Ins[0].Age = wild
	case 3:
		s.Tx.Ins[0].Point.N = wild
	case 4:
		s.Tx.Ins[0].Point.Tx = strings.Repeat("0", wild&127)
	case 5:
		s.Tx.Outs[0].Value = int64(wild)
	case 6:
		s.Tx.Outs[0].Lock = loop()
	case 7:
		s.Wits = make([]api.Witness, wild&3)
	case 8:
		s.Wits[0].Sigs = slices.Repeat([]api.Term{"n1;", "no term"}[d.Intn(2):][:1], wild&31)
	}
	return s
}

func (d *drawer) block(height int) api.Block {
	var b api.Block
	for range d.few(5) + d.Intn(2) {
		b.Txs = append(b.Txs, d.one(height))
	}
	return b
}

// places that Check is asked of.
func (d *drawer) at(height int) int {
	return []int{height, height + 1, height + 1, height + 2, height + 5, -1, 1 << 30, 1<<30 + 1, math.MinInt, math.MaxInt}[d.Intn(10)]
}

// A pair is a ledger, and the model that it is held against.
type pair struct {
	chain *Chain
	model model
}

func newPair(t *testing.T, d *drawer) *pair {
	first := d.outs(40 + d.Int63n(100))
	c, e := New(first)
	is(t, "New", e, api.OK)
	d.meet(api.Signed{Tx: api.Tx{Outs: first}})
	return &pair{c, newModel(first)}
}

// step does one thing to both, asks for one answer, and tells it.
func (p *pair) step(t *testing.T, d *drawer) api.Errno {
	t.Helper()
	var have, want api.Errno
	height := p.model.height()
	switch d.Intn(8) {
	case 0, 1:
		s, at := d.one(height), d.at(height)
		have, want = p.chain.Check(s, at), p.model.check(s, at)
	case 2:
		n := d.Intn(9) - 1
		have, want = p.chain.Back(n), p.model.back(n)
	case 3:
		for _, q := range d.met[max(0, len(d.met)-5):] {
			coin, ok := p.chain.Coin(q.Point)
			wanted, there := p.model.coin(q.Point)
			is(t, "Coin", ok && sameCoin(coin, wanted), there)
			s, at, ok := p.chain.Tx(q.Point.Tx)
			signed, place, there := p.model.tx(q.Point.Tx)
			is(t, "Tx", ok, there)
			is(t, "its place", at, place)
			is(t, "it", sameSigned(s, signed), true)
		}
	default:
		b := d.block(height)
		have, want = p.chain.Mine(b), p.model.mine(b)
	}
	is(t, "the answer", have, want)
	return want
}

// TestModel holds all calls against the model, over drawn rows of them, copies that go on by themselves among them.
func TestModel(t *testing.T) {
	count := map[api.Errno]int{}
	for seed := range int64(1000) {
		d := &drawer{Rand: rand.New(rand.NewSource(seed))}
		pairs := []*pair{newPair(t, d)}
		for range 30 {
			p := pairs[d.Intn(len(pairs))]
			count[p.step(t, d)]++
			if len(pairs) < 3 && d.Intn(12) == 0 {
				pairs = append(pairs, &pair{p.chain.Copy(), p.model})
			}
			if d.Intn(3) == 0 {
				is(t, "the ledger", tell(p.chain), p.model.tell())
			}
		}
		for _, p := range pairs {
			is(t, "the ledger", tell(p.chain), p.model.tell())
		}
	}
	for _, e := range []api.Errno{api.OK, api.ErrArg, api.ErrTwice, api.ErrMoney, api.ErrShut, api.ErrTx, api.ErrSpent, api.ErrEarly, api.ErrReorg} {
		if count[e] < 100 {
			t.Errorf("error %d came %d times: too few", e, count[e])
		}
	}
}
