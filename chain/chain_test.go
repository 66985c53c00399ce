package chain

import (
	"math"
	"slices"
	"strings"
	"testing"

	"sluiceway/api"
	"sluiceway/lock"
	"sluiceway/tx"
)

// TestExamples is the chapter's table.
func TestExamples(t *testing.T) {
	c, p := started(t, out(100, 1))
	is(t, "Height", c.Height(), 0)
	is(t, "Coins", len(c.Coins()), 1)
	hasCoin(t, c, p[0], out(100, 1), 0)
	s := spend(t, p[0], 1, out(90, 5))
	wrong := []struct {
		s    api.Signed
		want api.Errno
	}{
		{spend(t, p[0], 1, out(101, 5)), api.ErrMoney},
		{spend(t, p[0], 2, out(90, 5)), api.ErrShut},
		{signed(t, api.Tx{Ins: ins(p[0]), Outs: []api.Out{out(90, 5)}, After: 5}, 1), api.ErrEarly},
		{signed(t, api.Tx{Ins: []api.In{{Point: p[0], Age: 2}}, Outs: []api.Out{out(90, 5)}}, 1), api.ErrEarly},
	}
	for _, x := range wrong {
		refused(t, c, x.s, x.want)
	}
	mine(t, c, s)
	is(t, "Height", c.Height(), 1)
	is(t, "Coins", len(c.Coins()), 1)
	hasCoin(t, c, point(t, s, 0), out(90, 5), 1)
	refused(t, c, s, api.ErrTwice)
	back(t, c, 1)
	is(t, "Height", c.Height(), 0)
	hasCoin(t, c, p[0], out(100, 1), 0)
	is(t, "Back(1)", c.Back(1), api.ErrReorg)
	is(t, "Back(7)", c.Back(7), api.ErrReorg)
}

func TestP13_1New(t *testing.T) {
	for name, first := range map[string][]api.Out{
		"one": {out(1, 1)}, "two alike": {out(5, 1), out(5, 1)}, "MaxIO": slices.Repeat([]api.Out{out(3, 1)}, 64), "MaxCoin": {out(api.MaxCoin, 1)}, "MaxCoin together": {out(api.MaxCoin-1, 1), out(1, 2)},
		"locks": {{Value: 1, Lock: lock.After(0)}, {Value: 2, Lock: lock.Any(keyLock(1), lock.All(lock.Pre("Hn2;"), lock.Older(6)))}},
	} {
		c, e := New(first)
		if e != api.OK || c == nil {
			t.Fatalf("New of %s: %d", name, e)
		}
		is(t, name, c.Height(), 0)
		want := api.Signed{Tx: api.Tx{Outs: first}}
		hasBlock(t, c, 0, want)
		hasTx(t, c, want, 0)
		is(t, name, len(c.Coins()), len(first))
		for n, p := range pointsOf(t, want.Tx) {
			hasCoin(t, c, p, first[n], 0)
		}
	}
}

func TestP13_1NewWrong(t *testing.T) {
	for name, first := range map[string][]api.Out{
		"nil": nil, "empty": {}, "too many": slices.Repeat([]api.Out{out(3, 1)}, 65), "0": {out(0, 1)}, "below 0": {out(-1, 1)}, "the last one 0": {out(5, 1), out(0, 1)}, "the least": {out(math.MinInt64, 1)}, "the greatest": {out(math.MaxInt64, 1)},
		"past MaxCoin": {out(api.MaxCoin+1, 1)}, "past MaxCoin together": {out(api.MaxCoin, 1), out(1, 2)}, "run over": {out(math.MaxInt64, 1), out(math.MaxInt64, 1), out(7, 1)},
		"no lock": {{Value: 5}}, "a wrong lock": {{Value: 5, Lock: lock.Sig("n1;")}}, "a lock within itself": {{Value: 5, Lock: loop()}}, "no term": {{Value: 5, Lock: lock.Sig("\xff")}}, "a deep lock": {{Value: 5, Lock: deepLock(1 << 16)}}, "very many": make([]api.Out, 1<<20),
	} {
		if c, e := New(first); c != nil || e != api.ErrBlock {
			t.Errorf("New of %s: %v, %d", name, c, e)
		}
	}
}

// TestP13_1Nil asks it of a ledger without a block 0, too, which is none.
func TestP13_1Nil(t *testing.T) {
	x, points := started(t, out(5, 1))
	s := spend(t, points[0], 1, out(5, 2))
	mine(t, x, s)
	for name, c := range map[string]*Chain{"nil": nil, "zero": {}} {
		is(t, name, c.Height(), 0)
		for _, at := range []int{-1, 0, 1} {
			if b, ok := c.Block(at); ok || len(b.Txs) != 0 {
				t.Errorf("%s: Block(%d): %v, %t", name, at, b, ok)
			}
		}
		for _, id := range []string{"", points[0].Tx} {
			if s, at, ok := c.Tx(id); ok || at != 0 || !sameSigned(s, api.Signed{}) {
				t.Errorf("%s: Tx: %v, %d, %t", name, s, at, ok)
			}
		}
		for _, p := range []api.Point{{}, points[0]} {
			if coin, ok := c.Coin(p); ok || !sameCoin(coin, api.Coin{}) {
				t.Errorf("%s: Coin: %v, %t", name, coin, ok)
			}
		}
		is(t, name, len(c.Coins()), 0)
		for _, at := range []int{-1, 0, 1, 1 << 30, 1<<30 + 1} {
			is(t, name, c.Check(s, at), api.ErrNil)
			is(t, name, c.Check(api.Signed{}, at), api.ErrNil)
		}
		is(t, name, c.Mine(api.Block{}), api.ErrNil)
		is(t, name, c.Mine(block(s)), api.ErrNil)
		is(t, name, c.Mine(api.Block{Txs: make([]api.Signed, 65)}), api.ErrNil)
		for _, n := range []int{-1, 0, 1, 7} {
			is(t, name, c.Back(n), api.ErrNil)
		}
		if c.Copy() != nil {
			t.Errorf("%s: Copy is not nil", name)
		}
	}
}

func TestP13_2At(t *testing.T) {
	c, p := started(t, out(5, 1))
	s := spend(t, p[0], 1, out(5, 2))
	for height := range 4 {
		is(t, "Height", c.Height(), height)
		for _, at := range []int{math.MinInt, -1, 0, height - 1, height, 1<<30 + 1, 1 << 31, math.MaxInt} {
			if at <= height || at > 1<<30 {
				is(t, "Check", c.Check(s, at), api.ErrArg)
				is(t, "Check of nothing", c.Check(api.Signed{}, at), api.ErrArg)
			}
		}
		for _, at := range []int{height + 1, height + 2, height + 100, 1<<30 - 1, 1 << 30} {
			is(t, "Check", c.Check(s, at), api.OK)
			is(t, "Check of nothing", c.Check(api.Signed{}, at), api.ErrTx)
		}
		mine(t, c)
	}
}

// TestP13_2Times: After and Age at their bounds, by the block that is asked of, with no block between.
func TestP13_2Times(t *testing.T) {
	c, p := started(t, out(5, 1), out(6, 1))
	mine(t, c)
	a := spend(t, p[0], 1, out(5, 1))
	mine(t, c, a)
	made := point(t, a, 0)
	for _, x := range []struct {
		after, age int
		p          api.Point
		first      int
	}{
		{0, 0, made, 3}, {3, 0, made, 3}, {4, 0, made, 4}, {9, 0, made, 9}, {0, 1, made, 3}, {0, 2, made, 4}, {0, 7, made, 9}, {5, 7, made, 9}, {9, 5, made, 9}, {0, 3, p[1], 3}, {0, 4, p[1], 4},
		{1<<30 - 1, 0, made, 1<<30 - 1}, {0, 1<<30 - 2, made, 1 << 30}, {0, 1<<30 - 1, p[1], 1<<30 - 1}, {1<<30 - 1, 1<<30 - 1, p[1], 1<<30 - 1},
	} {
		s := signed(t, api.Tx{Ins: []api.In{{Point: x.p, Age: x.age}}, Outs: []api.Out{out(1, 2)}, After: x.after}, 1)
		is(t, "Check", c.Check(s, x.first), api.OK)
		if x.first > 3 {
			is(t, "Check one ahead", c.Check(s, x.first-1), api.ErrEarly)
		}
		if x.first < 1<<30 {
			is(t, "Check one behind", c.Check(s, x.first+1), api.OK)
		}
	}
	never := signed(t, api.Tx{Ins: []api.In{{Point: made, Age: 1<<30 - 1}}, Outs: []api.Out{out(1, 2)}}, 1)
	is(t, "Check", c.Check(never, 1<<30), api.ErrEarly)
}

// TestP13_2NothingChanges: what was checked does not stand.
func TestP13_2NothingChanges(t *testing.T) {
	c, p := started(t, out(5, 1))
	s := spend(t, p[0], 1, out(5, 2))
	was := tell(c)
	for range 3 {
		is(t, "Check", c.Check(s, 1), api.OK)
	}
	is(t, "the ledger", tell(c), was)
	hasNot(t, c, s)
}

// A fault is one thing that is wrong with a transaction of two Ins.
type fault struct {
	name string
	spot func(*api.Tx)     // ahead of signing
	late func(*api.Signed) // behind it
	want api.Errno
}

// faults are those of the chapter behind ErrTwice, in its order, each at either In.
func faults(gone api.Point) []fault {
	var l []fault
	for i := range 2 {
		l = append(l, fault{"spent", func(x *api.Tx) { x.Ins[i].Point = api.Point{Tx: gone.Tx, N: gone.N + i} }, nil, api.ErrSpent})
	}
	l = append(l, fault{"After", func(x *api.Tx) { x.After = 3 }, nil, api.ErrEarly})
	for i := range 2 {
		l = append(l, fault{"Age", func(x *api.Tx) { x.Ins[i].Age = 3 }, nil, api.ErrEarly})
	}
	for i := range 2 {
		l = append(l, fault{"shut", nil, func(s *api.Signed) { s.Wits[i] = api.Witness{} }, api.ErrShut})
	}
	return append(l, fault{"money", func(x *api.Tx) { x.Outs[1].Value++ }, nil, api.ErrMoney})
}

// TestP13_2Order: all sets of what may be wrong at once; the chapter's first one is the answer. That a transaction is not whole comes ahead of all.
func TestP13_2Order(t *testing.T) {
	c, p := started(t, out(10, 1), out(20, 1), out(30, 1), out(40, 1))
	mine(t, c, signed(t, api.Tx{Ins: ins(p[2], p[3]), Outs: []api.Out{out(70, 1)}}, 1))
	all := faults(p[2])
	for set := range 1 << len(all) {
		x := api.Tx{Ins: ins(p[0], p[1]), Outs: []api.Out{out(12, 5), out(18, 6)}}
		want := api.OK
		for k, f := range slices.Backward(all) {
			if set>>k&1 == 0 {
				continue
			}
			want = f.want
			if f.spot != nil {
				f.spot(&x)
			}
		}
		s := signed(t, x, 1)
		for k, f := range all {
			if set>>k&1 == 1 && f.late != nil {
				f.late(&s)
			}
		}
		if want == api.OK {
			taken(t, c, s)
			continue
		}
		refused(t, c, s, want)
		s.Wits = append(s.Wits, api.Witness{})
		refused(t, c, s, api.ErrTx)
	}
}

// TestP13_2NotWhole: each way of not being whole; Check and Mine ask as tx.Whole does.
func TestP13_2NotWhole(t *testing.T) {
	c, p := started(t, out(10, 1), out(20, 1))
	for name, spoil := range map[string]func(*api.Signed){
		"no Wits": func(s *api.Signed) { s.Wits = nil }, "a Wit more": func(s *api.Signed) { s.Wits = append(s.Wits, s.Wits[0]) }, "no term": func(s *api.Signed) { s.Wits[0].Pres = []api.Term{"no term"} }, "too many Sigs": func(s *api.Signed) { s.Wits[0].Sigs = slices.Repeat(s.Wits[0].Sigs, 17) }, "too many Pres": func(s *api.Signed) { s.Wits[0].Pres = slices.Repeat([]api.Term{"n1;"}, 17) },
		"no Outs": func(s *api.Signed) { s.Tx.Outs = nil }, "a Value of 0": func(s *api.Signed) { s.Tx.Outs[0].Value = 0 }, "a Value below 0": func(s *api.Signed) { s.Tx.Outs[0].Value = -5 }, "a wrong Lock": func(s *api.Signed) { s.Tx.Outs[0].Lock = api.Lock{} }, "a Lock within itself": func(s *api.Signed) { s.Tx.Outs[0].Lock = loop() }, "a deep Lock": func(s *api.Signed) { s.Tx.Outs[0].Lock = deepLock(1 << 16) }, "very many Ins": func(s *api.Signed) { s.Tx.Ins, s.Wits = make([]api.In, 1<<20), make([]api.Witness, 1<<20) },
		"After below 0": func(s *api.Signed) { s.Tx.After = -1 }, "After too great": func(s *api.Signed) { s.Tx.After = 1 << 30 }, "Tag below 0": func(s *api.Signed) { s.Tx.Tag = -1 }, "Age below 0": func(s *api.Signed) { s.Tx.Ins[0].Age = -1 }, "Age too great": func(s *api.Signed) { s.Tx.Ins[0].Age = 1 << 30 },
		"an In twice": func(s *api.Signed) {
			s.Tx.Ins, s.Wits = append(s.Tx.Ins, s.Tx.Ins[0]), append(s.Wits, s.Wits[0])
		}, "no id": func(s *api.Signed) { s.Tx.Ins[0].Point.Tx = "" }, "an id in great letters": func(s *api.Signed) { s.Tx.Ins[0].Point.Tx = strings.Repeat("A", 64) }, "N below 0": func(s *api.Signed) { s.Tx.Ins[0].Point.N = -1 }, "N too great": func(s *api.Signed) { s.Tx.Ins[0].Point.N = 64 },
	} {
		s := spend(t, p[0], 1, out(10, 2))
		spoil(&s)
		if tx.Whole(s) {
			t.Fatalf("%s is whole", name)
		}
		refused(t, c, s, api.ErrTx)
	}
	refused(t, c, api.Signed{}, api.ErrTx)
	s := spend(t, p[0], 1, out(10, 2))
	s.Wits[0].Sigs = slices.Repeat(s.Wits[0].Sigs, 16)
	s.Wits[0].Pres = slices.Repeat([]api.Term{"n1;"}, 16)
	taken(t, c, s)
}

func TestP13_2Twice(t *testing.T) {
	c, p := started(t, out(10, 1), out(20, 1))
	first := api.Signed{Tx: api.Tx{Outs: []api.Out{out(10, 1), out(20, 1)}}}
	refused(t, c, first, api.ErrTwice)
	s := spend(t, p[0], 1, out(10, 2))
	is(t, "Mine twice", c.Mine(block(s, s)), api.ErrTwice)
	bare := api.Signed{Tx: s.Tx, Wits: make([]api.Witness, 1)}
	is(t, "Mine with another witness", c.Mine(block(s, bare)), api.ErrTwice)
	is(t, "Height", c.Height(), 0)
	mine(t, c, s)
	refused(t, c, s, api.ErrTwice)
	refused(t, c, bare, api.ErrTwice)
	refused(t, c, api.Signed{Tx: s.Tx}, api.ErrTx)
	is(t, "Mine of it at the end", c.Mine(block(spend(t, p[1], 1, out(20, 2)), s)), api.ErrTwice)
	mine(t, c, spend(t, point(t, s, 0), 2, out(10, 3)))
	for range 5 {
		refused(t, c, s, api.ErrTwice)
		refused(t, c, first, api.ErrTwice)
		mine(t, c)
	}
	tagged := s.Tx
	tagged.Tag = 1
	refused(t, c, signed(t, tagged, 1), api.ErrSpent)
}

// TestP13_2NoIns: coins come from nowhere but block 0.
func TestP13_2NoIns(t *testing.T) {
	c, _ := started(t, out(10, 1))
	refused(t, c, api.Signed{Tx: api.Tx{Outs: []api.Out{out(1, 1)}}}, api.ErrMoney)
	refused(t, c, api.Signed{Tx: api.Tx{Outs: []api.Out{out(10, 1)}, Tag: 1}}, api.ErrMoney)
	refused(t, c, api.Signed{Tx: api.Tx{Outs: []api.Out{out(10, 1)}, After: 1}}, api.ErrMoney)
	refused(t, c, api.Signed{Tx: api.Tx{Outs: []api.Out{out(10, 1)}, After: 2}}, api.ErrEarly)
}

func TestP13_2Spent(t *testing.T) {
	c, p := started(t, out(10, 1), out(20, 1))
	refused(t, c, spend(t, api.Point{Tx: p[0].Tx, N: 2}, 1, out(1, 1)), api.ErrSpent)
	refused(t, c, spend(t, api.Point{Tx: p[0].Tx, N: 63}, 1, out(1, 1)), api.ErrSpent)
	refused(t, c, spend(t, api.Point{Tx: strings.Repeat("0", 64)}, 1, out(1, 1)), api.ErrSpent)
	a, b := spend(t, p[0], 1, out(10, 2)), spend(t, p[0], 1, out(9, 2))
	is(t, "both at once", c.Mine(block(a, b)), api.ErrSpent)
	mine(t, c, a)
	refused(t, c, b, api.ErrSpent)
	refused(t, c, signed(t, api.Tx{Ins: ins(p[1], p[0]), Outs: []api.Out{out(9, 2)}}, 1), api.ErrSpent)
	back(t, c, 1)
	mine(t, c, b)
	refused(t, c, a, api.ErrSpent)
	refused(t, c, spend(t, point(t, a, 0), 2, out(1, 2)), api.ErrSpent)
}

// TestP13_2Shut: each In is asked of its own coin's lock, with its own Wit, After and Age.
func TestP13_2Shut(t *testing.T) {
	c, p := started(t, out(10, 1), out(20, 2), api.Out{Value: 5, Lock: lock.Pre("Hn7;")}, api.Out{Value: 6, Lock: lock.Older(2)}, api.Out{Value: 7, Lock: lock.After(2)}, api.Out{Value: 8, Lock: lock.All(keyLock(1), keyLock(2))})
	mine(t, c)
	both := api.Tx{Ins: ins(p[0], p[1]), Outs: []api.Out{out(1, 1)}}
	one, two := signed(t, both, 1), signed(t, both, 2)
	refused(t, c, one, api.ErrShut)
	refused(t, c, two, api.ErrShut)
	refused(t, c, api.Signed{Tx: both, Wits: []api.Witness{two.Wits[0], one.Wits[1]}}, api.ErrShut)
	taken(t, c, api.Signed{Tx: both, Wits: []api.Witness{one.Wits[0], two.Wits[1]}})
	taken(t, c, signed(t, both, 2, 1))
	refused(t, c, api.Signed{Tx: both, Wits: spend(t, p[0], 1, out(1, 1), out(1, 1)).Wits}, api.ErrTx)
	other := both
	other.Tag = 1
	refused(t, c, api.Signed{Tx: both, Wits: signed(t, other, 1, 2).Wits}, api.ErrShut)

	pre := api.Signed{Tx: api.Tx{Ins: ins(p[2]), Outs: []api.Out{out(5, 1)}}, Wits: []api.Witness{{Pres: []api.Term{"n7;"}}}}
	taken(t, c, pre)
	pre.Wits[0].Pres[0] = "n8;"
	refused(t, c, pre, api.ErrShut)
	for n, x := range []struct {
		age, after int
		want       api.Errno
	}{{0, 0, api.ErrShut}, {1, 0, api.ErrShut}, {2, 0, api.OK}, {0, 2, api.ErrShut}, {3, 0, api.ErrEarly}} {
		s := signed(t, api.Tx{Ins: []api.In{{Point: p[3], Age: x.age}}, Outs: []api.Out{out(6, 1)}, After: x.after})
		is(t, "older", c.Check(s, 2), x.want)
		s = signed(t, api.Tx{Ins: []api.In{{Point: p[4], Age: x.after}}, Outs: []api.Out{out(6, 1)}, After: x.age})
		is(t, "after", c.Check(s, 2), x.want)
		is(t, "one that needs both", c.Check(spend(t, p[5], 1+n%2, out(8, 1)), 2), api.ErrShut)
	}
	taken(t, c, signed(t, api.Tx{Ins: ins(p[5]), Outs: []api.Out{out(8, 1)}}, 1, 2))
}

func TestP13_2Money(t *testing.T) {
	c, p := started(t, out(10, 1), out(20, 1), out(30, 1))
	for _, x := range []struct {
		points []api.Point
		all    int64
	}{{p[:1], 10}, {p[1:2], 20}, {p[:2], 30}, {p[1:], 50}, {p, 60}} {
		for _, outs := range [][]api.Out{{out(x.all, 2)}, {out(1, 2)}, {out(x.all-1, 2), out(1, 3)}, {out(1, 2), out(x.all-1, 3)}, {out(x.all-5, 2), out(2, 3), out(3, 4)}} {
			taken(t, c, signed(t, api.Tx{Ins: ins(x.points...), Outs: outs}, 1))
			more := slices.Clone(outs)
			more[len(more)-1].Value += x.all - tx.Total(api.Tx{Outs: outs}) + 1
			refused(t, c, signed(t, api.Tx{Ins: ins(x.points...), Outs: more}, 1), api.ErrMoney)
			refused(t, c, signed(t, api.Tx{Ins: ins(x.points...), Outs: append(slices.Clone(outs), out(api.MaxCoin-x.all, 2))}, 1), api.ErrMoney)
		}
	}
	whole, q := started(t, out(api.MaxCoin, 1))
	taken(t, whole, spend(t, q[0], 1, out(api.MaxCoin, 1)))
	past := api.Signed{Tx: api.Tx{Ins: ins(q[0]), Outs: []api.Out{out(api.MaxCoin, 1), out(1, 1)}}, Wits: make([]api.Witness, 1)}
	refused(t, whole, past, api.ErrTx)
}

// TestP13_2MostIns: as many Ins and Outs as may be.
func TestP13_2MostIns(t *testing.T) {
	outs := slices.Repeat([]api.Out{out(5, 1)}, 64)
	c, p := started(t, outs...)
	s := signed(t, api.Tx{Ins: ins(p...), Outs: outs}, 1)
	taken(t, c, s)
	s.Wits[63] = api.Witness{}
	refused(t, c, s, api.ErrShut)
	mine(t, c, signed(t, api.Tx{Ins: ins(p...), Outs: outs}, 1))
	for _, q := range p {
		noCoin(t, c, q)
	}
	is(t, "Coins", len(c.Coins()), 64)
	is(t, "all", sumOf(c), 320)
}

func TestP13_3InOneBlock(t *testing.T) {
	c, p := started(t, out(10, 1), out(20, 1))
	was := tell(c)
	a := spend(t, p[0], 1, out(4, 2), out(6, 3))
	b := spend(t, point(t, a, 1), 3, out(6, 4))
	d := signed(t, api.Tx{Ins: ins(point(t, b, 0), point(t, a, 0)), Outs: []api.Out{out(10, 5)}}, 2, 4)
	for _, txs := range [][]api.Signed{{b}, {b, a}, {d, a, b}, {a, d, b}, {a, d}, {b, d, a}} {
		is(t, "in a wrong order", c.Mine(block(txs...)), api.ErrSpent)
		is(t, "the ledger", tell(c), was)
	}
	is(t, "Check", c.Check(b, 1), api.ErrSpent)
	mine(t, c, a, b, d)
	is(t, "Height", c.Height(), 1)
	hasBlock(t, c, 1, a, b, d)
	for _, s := range []api.Signed{a, b, d} {
		hasTx(t, c, s, 1)
	}
	for _, q := range []api.Point{p[0], point(t, a, 0), point(t, a, 1), point(t, b, 0)} {
		noCoin(t, c, q)
	}
	hasCoin(t, c, p[1], out(20, 1), 0)
	hasCoin(t, c, point(t, d, 0), out(10, 5), 1)
	is(t, "Coins", len(c.Coins()), 2)
	back(t, c, 1)
	is(t, "the ledger", tell(c), was)
}

// TestP13_3AgeInOneBlock: what was made in the same block has no age; what was made one ahead has one of 1.
func TestP13_3AgeInOneBlock(t *testing.T) {
	c, p := started(t, out(10, 1))
	a := spend(t, p[0], 1, out(10, 2))
	for age, want := range []api.Errno{api.OK, api.ErrEarly} {
		s := signed(t, api.Tx{Ins: []api.In{{Point: point(t, a, 0), Age: age}}, Outs: []api.Out{out(10, 1)}}, 2)
		is(t, "Mine", c.Copy().Mine(block(a, s)), want)
	}
	mine(t, c, a)
	for age, want := range []api.Errno{api.OK, api.OK, api.ErrEarly} {
		s := signed(t, api.Tx{Ins: []api.In{{Point: point(t, a, 0), Age: age}}, Outs: []api.Out{out(10, 1)}}, 2)
		is(t, "Mine", c.Copy().Mine(block(s)), want)
	}
}

// TestP13_3Times: Mine asks of the block behind the height.
func TestP13_3Times(t *testing.T) {
	c, p := started(t, out(10, 1), out(10, 1))
	late := signed(t, api.Tx{Ins: ins(p[0]), Outs: []api.Out{out(10, 2)}, After: 4}, 1)
	old := signed(t, api.Tx{Ins: []api.In{{Point: p[1], Age: 4}}, Outs: []api.Out{out(10, 2)}}, 1)
	for range 3 {
		refused(t, c, late, api.ErrEarly)
		refused(t, c, old, api.ErrEarly)
		mine(t, c)
	}
	mine(t, c, late, old)
	hasTx(t, c, late, 4)
	hasTx(t, c, old, 4)
}

// chainOf are transactions that spend one another's only Out, from p on.
func chainOf(t *testing.T, p api.Point, n int) []api.Signed {
	t.Helper()
	var txs []api.Signed
	for range n {
		s := spend(t, p, 1, out(10, 1))
		p = point(t, s, 0)
		txs = append(txs, s)
	}
	return txs
}

func TestP13_3HowMany(t *testing.T) {
	c, p := started(t, out(10, 1))
	for _, b := range []api.Block{{}, {Txs: []api.Signed{}}} {
		was := c.Coins()
		is(t, "a block of none", c.Mine(b), api.OK)
		is(t, "Coins", slices.EqualFunc(c.Coins(), was, sameCoin), true)
		hasBlock(t, c, c.Height())
	}
	is(t, "Height", c.Height(), 2)
	txs := chainOf(t, p[0], 65)
	was := tell(c)
	is(t, "65", c.Mine(block(txs...)), api.ErrBlock)
	is(t, "65 wrong ones", c.Mine(api.Block{Txs: make([]api.Signed, 65)}), api.ErrBlock)
	is(t, "very many", c.Mine(api.Block{Txs: make([]api.Signed, 1<<20)}), api.ErrBlock)
	is(t, "64 wrong ones", c.Mine(api.Block{Txs: make([]api.Signed, 64)}), api.ErrTx)
	is(t, "the ledger", tell(c), was)
	is(t, "64", c.Mine(block(txs[:64]...)), api.OK)
	hasBlock(t, c, 3, txs[:64]...)
	hasCoin(t, c, point(t, txs[63], 0), out(10, 1), 3)
	is(t, "Coins", len(c.Coins()), 1)
	mine(t, c, txs[64])
	back(t, c, 2)
	is(t, "the ledger", tell(c), was)
}

// TestP13_3FirstError: the error is the first wrong one's, whatever those behind it are; nothing changes, however many may stand ahead.
func TestP13_3FirstError(t *testing.T) {
	c, p := started(t, out(10, 1), out(20, 1))
	good := chainOf(t, p[0], 63)
	wrong := map[api.Errno]api.Signed{
		api.ErrTx: {}, api.ErrTwice: good[0], api.ErrSpent: spend(t, p[0], 1, out(1, 1)), api.ErrEarly: signed(t, api.Tx{Ins: ins(p[1]), Outs: []api.Out{out(1, 1)}, After: 2}, 1), api.ErrShut: spend(t, p[1], 2, out(1, 1)), api.ErrMoney: spend(t, p[1], 1, out(21, 1)),
	}
	was := tell(c)
	for want, s := range wrong {
		for _, n := range []int{1, 2, 63} {
			is(t, "a wrong one at the end", c.Mine(block(append(slices.Clone(good[:n]), s)...)), want)
			is(t, "the ledger", tell(c), was)
		}
		for _, other := range wrong {
			is(t, "two wrong ones", c.Mine(block(good[0], s, other, good[1])), want)
			is(t, "the ledger", tell(c), was)
		}
	}
	mine(t, c, good...)
	is(t, "Height", c.Height(), 1)
}

// TestP13_3AllOrNothing: of a block with a wrong one in its midst nothing is taken, neither what stands ahead of it nor what stands behind.
func TestP13_3AllOrNothing(t *testing.T) {
	c, p := started(t, out(10, 1), out(20, 1))
	a, b := spend(t, p[0], 1, out(10, 2)), spend(t, p[1], 1, out(20, 2))
	wrong := spend(t, point(t, a, 0), 1, out(10, 2))
	is(t, "Mine", c.Mine(block(a, wrong, b)), api.ErrShut)
	for _, s := range []api.Signed{a, b, wrong} {
		hasNot(t, c, s)
	}
	hasCoin(t, c, p[0], out(10, 1), 0)
	hasCoin(t, c, p[1], out(20, 1), 0)
	mine(t, c, b, a)
	hasBlock(t, c, 1, b, a)
}

func TestP13_4Errors(t *testing.T) {
	c, _ := started(t, out(10, 1))
	for height := range 10 {
		was := tell(c)
		for _, n := range []int{math.MinInt, -7, -1} {
			is(t, "below 0", c.Back(n), api.ErrArg)
		}
		for _, n := range []int{height + 1, height + 2, 7, 8, 64, math.MaxInt} {
			if n > height || n > 6 {
				is(t, "too many", c.Back(n), api.ErrReorg)
			}
		}
		is(t, "Back(0)", c.Back(0), api.OK)
		is(t, "the ledger", tell(c), was)
		for n := 1; n <= min(height, 6); n++ {
			d := c.Copy()
			back(t, d, n)
			is(t, "Height", d.Height(), height-n)
		}
		mine(t, c)
	}
}

// TestP13_4Gone: of what is gone nothing is told; what it spent is there again, with its own place.
func TestP13_4Gone(t *testing.T) {
	c, p := started(t, out(10, 1), out(20, 1))
	a := spend(t, p[0], 1, out(4, 2), out(6, 3))
	b := signed(t, api.Tx{Ins: ins(p[1], point(t, a, 1)), Outs: []api.Out{out(26, 4)}}, 1, 3)
	d := spend(t, point(t, b, 0), 4, out(26, 5))
	var told []string
	for _, txs := range [][]api.Signed{nil, {a}, nil, {b, d}} {
		told = append(told, tell(c))
		mine(t, c, txs...)
	}
	is(t, "Height", c.Height(), 4)
	whole := tell(c)
	for n := range 5 {
		x := c.Copy()
		back(t, x, n)
		is(t, "Height", x.Height(), 4-n)
		if n > 0 {
			is(t, "the ledger", tell(x), told[4-n])
		}
		for at := 4 - n + 1; at < 6; at++ {
			if b, ok := x.Block(at); ok || len(b.Txs) != 0 {
				t.Errorf("Block(%d): %v, %t", at, b, ok)
			}
		}
	}
	back(t, c, 1)
	hasNot(t, c, b)
	hasNot(t, c, d)
	hasCoin(t, c, p[1], out(20, 1), 0)
	hasCoin(t, c, point(t, a, 0), out(4, 2), 2)
	hasCoin(t, c, point(t, a, 1), out(6, 3), 2)
	noCoin(t, c, p[0])
	mine(t, c, b, d)
	is(t, "mined again", tell(c), whole)
	back(t, c, 3)
	hasNot(t, c, a)
	hasCoin(t, c, p[0], out(10, 1), 0)
	mine(t, c, a)
	hasTx(t, c, a, 2)
}

// TestP13_4Deep: MaxReorg is of one call; several calls go back to block 0.
func TestP13_4Deep(t *testing.T) {
	c, p := started(t, out(10, 1))
	was := tell(c)
	for _, s := range chainOf(t, p[0], 20) {
		mine(t, c, s)
	}
	for _, n := range []int{6, 6, 6} {
		back(t, c, n)
	}
	is(t, "Height", c.Height(), 2)
	is(t, "Back(3)", c.Back(3), api.ErrReorg)
	back(t, c, 2)
	is(t, "the ledger", tell(c), was)
	is(t, "Back(1)", c.Back(1), api.ErrReorg)
}

func TestP13_5Found(t *testing.T) {
	c, p := started(t, out(10, 1), out(20, 1))
	first := api.Signed{Tx: api.Tx{Outs: []api.Out{out(10, 1), out(20, 1)}}}
	a := signed(t, api.Tx{Ins: []api.In{{Point: p[0], Age: 2}}, Outs: []api.Out{out(9, 2)}, After: 1, Tag: 77}, 1, 2)
	a.Wits[0].Pres = []api.Term{"n5;", "t2:ab"}
	b := spend(t, p[1], 1, out(20, 3))
	mine(t, c)
	mine(t, c, a, b)
	is(t, "Height", c.Height(), 2)
	hasBlock(t, c, 0, first)
	hasBlock(t, c, 1)
	hasBlock(t, c, 2, a, b)
	hasTx(t, c, first, 0)
	hasTx(t, c, a, 2)
	hasTx(t, c, b, 2)
	hasCoin(t, c, point(t, a, 0), out(9, 2), 2)
	hasCoin(t, c, point(t, b, 0), out(20, 3), 2)
	for _, at := range []int{math.MinInt, -1, 3, 4, math.MaxInt} {
		if b, ok := c.Block(at); ok || len(b.Txs) != 0 {
			t.Errorf("Block(%d): %v, %t", at, b, ok)
		}
	}
	id := idOf(t, a.Tx)
	for _, s := range []string{"", id[1:], id + "0", strings.ToUpper(id), strings.Repeat("0", 64), "\xff", strings.Repeat("a", 1<<16)} {
		if x, at, ok := c.Tx(s); ok || at != 0 || !sameSigned(x, api.Signed{}) {
			t.Errorf("Tx(%q): %v, %d, %t", s, x, at, ok)
		}
	}
	for _, q := range []api.Point{{}, {Tx: id, N: 1}, {Tx: id, N: -1}, {Tx: id, N: math.MaxInt}, {Tx: "x"}, {Tx: id[1:]}, p[0], p[1], {Tx: p[0].Tx, N: 2}} {
		noCoin(t, c, q)
	}
}

// TestP13_5CoinsInOrder: by the Point's Tx, then by its N as a number.
func TestP13_5CoinsInOrder(t *testing.T) {
	c, p := started(t, slices.Repeat([]api.Out{out(100, 1)}, 40)...)
	var txs []api.Signed
	for _, q := range p[:25] {
		txs = append(txs, spend(t, q, 1, slices.Repeat([]api.Out{out(1, 1)}, 12)...))
	}
	mine(t, c, txs...)
	coins := c.Coins()
	is(t, "Coins", len(coins), 15+25*12)
	for i, coin := range coins {
		hasCoin(t, c, coin.Point, coin.Out, coin.At)
		if i == 0 {
			continue
		}
		a, b := coins[i-1].Point, coin.Point
		if a.Tx > b.Tx || a.Tx == b.Tx && a.N >= b.N {
			t.Fatalf("%v stands ahead of %v", a, b)
		}
	}
}

func TestP13_6Copy(t *testing.T) {
	c, p := started(t, out(10, 1), out(20, 1))
	a, b := spend(t, p[0], 1, out(10, 2)), spend(t, p[1], 1, out(20, 2))
	mine(t, c, a)
	mine(t, c)
	was := tell(c)
	d := c.Copy()
	is(t, "the copy", tell(d), was)
	mine(t, d, b)
	is(t, "the ledger", tell(c), was)
	other := tell(d)
	back(t, c, 2)
	is(t, "the copy", tell(d), other)
	mine(t, c, b)
	mine(t, c, spend(t, point(t, b, 0), 2, out(5, 1)))
	is(t, "the copy", tell(d), other)
	hasTx(t, d, a, 1)
	hasTx(t, d, b, 3)
	third := tell(c)
	back(t, d, 3)
	is(t, "the ledger", tell(c), third)
	is(t, "Height", d.Height(), 0)
	start, _ := started(t, out(10, 1), out(20, 1))
	is(t, "the copy", tell(d), tell(start))
	is(t, "a copy of a copy", tell(c.Copy().Copy()), third)
}

// TestP13_6CopyBehindBack: a block that was taken back is none of the copy's, and blocks of either do not meet in memory.
func TestP13_6CopyBehindBack(t *testing.T) {
	c, p := started(t, out(10, 1), out(20, 1))
	a, b := spend(t, p[0], 1, out(10, 2)), spend(t, p[1], 1, out(20, 2))
	mine(t, c)
	mine(t, c)
	back(t, c, 1)
	d := c.Copy()
	mine(t, c, a)
	mine(t, d, b)
	hasBlock(t, c, 2, a)
	hasBlock(t, d, 2, b)
	hasNot(t, c, b)
	hasNot(t, d, a)
}
