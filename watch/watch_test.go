package watch

import (
	"math"
	"slices"
	"strings"
	"testing"

	"sluiceway/api"
	"sluiceway/tx"
)

// TestExamples is the chapter's table.
func TestExamples(t *testing.T) {
	p := point("a", 3)
	a, b := signed(1, 1, p), signed(2, 1, point("b", 0))
	id := idOf(t, a)
	w := New(5)
	is(t, "Tx", w.Tx(id, 2), api.OK)
	is(t, "Tx", w.Tx(id, 2), api.ErrTwice)
	is(t, "Tx", w.Tx("x", 0), api.ErrArg)
	is(t, "Spend", w.Spend(p), api.OK)
	is(t, "Spend", w.Spend(p), api.ErrTwice)
	is(t, "Asks", w.Asks(), 2)
	hears(t, w, block(b))
	hears(t, w, block(a), stands(id, a, 7), spent(p, a, 7))
	hears(t, w, block(), isDeep(id, 7, 2))
	is(t, "Height", w.Height(), 8)
	loses(t, w, 1)
	hears(t, w, block(), isDeep(id, 7, 2))
	loses(t, w, 2, standsBack(id, a, 7), spentBack(p, a, 7))
	hears(t, w, block())
	hears(t, w, block(a), stands(id, a, 8), spent(p, a, 8))
	refuses(t, w, 4, api.ErrReorg)
	refuses(t, w, -1, api.ErrArg)
}

func TestP14_1New(t *testing.T) {
	a := signed(1, 1)
	id := idOf(t, a)
	for _, x := range []struct{ height, want int }{
		{math.MinInt, 0}, {-2, 0}, {-1, 0}, {0, 0}, {1, 1}, {2, 2}, {10, 10}, {1<<30 - 1, 1<<30 - 1}, {1 << 30, 1 << 30}, {1<<30 + 1, 1 << 30}, {1 << 31, 1 << 30}, {math.MaxInt, 1 << 30},
	} {
		w := New(x.height)
		is(t, "Height", w.Height(), x.want)
		is(t, "Asks", w.Asks(), 0)
		refuses(t, w, 1, api.ErrReorg)
		loses(t, w, 0)
		hears(t, w, block(a))
		asksTx(t, w, id, 2)
		hears(t, w, block(a), stands(id, a, x.want+1), isDeep(id, x.want+1, 2))
		is(t, "Height", w.Height(), x.want+2)
		refuses(t, w, 3, api.ErrReorg)
		loses(t, w, 2, standsBack(id, a, x.want+1))
		is(t, "Height", w.Height(), x.want)
	}
}

// TestP14_1Apart: what one watcher is asked and told is not another's.
func TestP14_1Apart(t *testing.T) {
	a := signed(1, 1, point("a", 0))
	v, w := New(4), New(4)
	asksTx(t, v, idOf(t, a), 1)
	hears(t, v, block(a), stands(idOf(t, a), a, 5), isDeep(idOf(t, a), 5, 1))
	is(t, "Asks", w.Asks(), 0)
	is(t, "Height", w.Height(), 4)
	asksTx(t, w, idOf(t, a), 1)
	hears(t, w, block())
}

func TestP14_1Nil(t *testing.T) {
	var w *Watch
	for _, deep := range []int{math.MinInt, 0, 1, 1 << 20, 1<<20 + 1} {
		is(t, "Tx", w.Tx("", deep), api.ErrNil)
		is(t, "Tx", w.Tx(strings.Repeat("a", 64), deep), api.ErrNil)
	}
	for _, p := range []api.Point{{}, point("a", 0), {N: -1}} {
		is(t, "Spend", w.Spend(p), api.ErrNil)
	}
	for _, b := range []api.Block{{}, block(signed(1, 1, point("a", 0)))} {
		is(t, "Block", len(w.Block(b)), 0)
	}
	for _, n := range []int{math.MinInt, -1, 0, 1, 6, 7, math.MaxInt} {
		refuses(t, w, n, api.ErrNil)
	}
	is(t, "Height", w.Height(), 0)
	is(t, "Asks", w.Asks(), 0)
}

// TestP14_1Zero: a watcher made by hand is as one of New(0).
func TestP14_1Zero(t *testing.T) {
	a := signed(1, 1, point("a", 0))
	w := &Watch{}
	refuses(t, w, 1, api.ErrReorg)
	asksSpend(t, w, point("a", 0))
	hears(t, w, block(a), spent(point("a", 0), a, 1))
	loses(t, w, 1, spentBack(point("a", 0), a, 1))
}

func TestP14_2Deep(t *testing.T) {
	for _, x := range []struct {
		deep int
		want api.Errno
	}{
		{math.MinInt, api.ErrArg}, {-1, api.ErrArg}, {0, api.ErrArg}, {1, api.OK}, {2, api.OK}, {1<<20 - 1, api.OK}, {1 << 20, api.OK}, {1<<20 + 1, api.ErrArg}, {1 << 32, api.ErrArg}, {1<<32 + 1, api.ErrArg}, {math.MaxInt, api.ErrArg},
	} {
		w := New(0)
		is(t, "Tx", w.Tx("x", x.deep), x.want)
		n := 0
		if x.want == api.OK {
			n = 1
		}
		is(t, "Asks", w.Asks(), n)
	}
}

func TestP14_2Twice(t *testing.T) {
	w := New(3)
	a := signed(1, 1, point("a", 0))
	id := idOf(t, a)
	twice := func() {
		t.Helper()
		n := w.Asks()
		is(t, "Tx", w.Tx(strings.Clone(id), 2), api.ErrTwice)
		is(t, "Tx", w.Tx(id, 0), api.ErrArg)
		is(t, "Spend", w.Spend(api.Point{Tx: strings.Clone(point("a", 0).Tx)}), api.ErrTwice)
		is(t, "Asks", w.Asks(), n)
	}
	asksTx(t, w, id, 2)
	asksSpend(t, w, point("a", 0))
	twice()
	asksTx(t, w, id, 1)
	asksTx(t, w, id, 3)
	asksTx(t, w, id[:63], 2)
	asksTx(t, w, id+"0", 2)
	asksTx(t, w, strings.ToUpper(id), 2)
	asksTx(t, w, "", 2)
	asksSpend(t, w, point("a", 1))
	asksSpend(t, w, point("b", 0))
	asksSpend(t, w, api.Point{Tx: id})
	asksSpend(t, w, api.Point{Tx: id, N: 2})
	asksTx(t, w, point("a", 0).Tx, 1)
	twice()
	is(t, "Tx", w.Tx("", 2), api.ErrTwice)
	is(t, "Spend", w.Spend(api.Point{Tx: id, N: 2}), api.ErrTwice)
	w.Block(block(a))
	twice()
	w.Back(1)
	twice()
	is(t, "Asks", w.Asks(), 13)
}

// TestP14_2Any: no text is no id, and no Point is none, for asking.
func TestP14_2Any(t *testing.T) {
	w := New(3)
	for _, s := range []string{"", "x", "\xff\x00", strings.Repeat("A", 64), strings.Repeat("0", 1<<20)} {
		asksTx(t, w, s, 1)
		for _, n := range []int{math.MinInt, -1, 0, 64, math.MaxInt} {
			asksSpend(t, w, api.Point{Tx: s, N: n})
			is(t, "Spend", w.Spend(api.Point{Tx: s, N: n}), api.ErrTwice)
		}
	}
	hears(t, w, block(signed(1, 1, point("a", 0)), spoilt(signed(2, 1)), api.Signed{}))
}

// TestP14_2Limit: 1024 asks, of either kind and of both.
func TestP14_2Limit(t *testing.T) {
	for share := range 3 {
		w := New(0)
		ask := func(i int) api.Errno {
			if share == 0 || share == 1 && i%2 == 0 {
				return w.Tx("x", i+1)
			}
			return w.Spend(api.Point{Tx: "x", N: i})
		}
		for i := range 1024 {
			is(t, "Asks", w.Asks(), i)
			is(t, "an ask", ask(i), api.OK)
		}
		for range 2 {
			is(t, "Tx", w.Tx("y", 1), api.ErrLimit)
			is(t, "Tx", w.Tx("x", 1025), api.ErrLimit)
			is(t, "Tx", w.Tx("y", 0), api.ErrArg)
			is(t, "Tx", w.Tx("x", 1<<20+1), api.ErrArg)
			is(t, "Spend", w.Spend(point("a", 0)), api.ErrLimit)
			for _, i := range []int{0, 1, 1022, 1023} {
				is(t, "an ask that is there", ask(i), api.ErrTwice)
			}
			is(t, "Asks", w.Asks(), 1024)
		}
	}
}

// TestP14_2RefusedIsNone: what was refused is not told of.
func TestP14_2RefusedIsNone(t *testing.T) {
	a := signed(1, 1, point("a", 0))
	w := New(0)
	is(t, "Tx", w.Tx(idOf(t, a), 0), api.ErrArg)
	for i := range 1024 {
		asksTx(t, w, "x", i+1)
	}
	is(t, "Tx", w.Tx(idOf(t, a), 1), api.ErrLimit)
	is(t, "Spend", w.Spend(point("a", 0)), api.ErrLimit)
	hears(t, w, block(a))
}

// TestP14_2NotAtOnce: an ask behind a block is told of with the next one, whatever that has.
func TestP14_2NotAtOnce(t *testing.T) {
	p := point("a", 0)
	a := signed(1, 1, p)
	id := idOf(t, a)
	w := New(5)
	hears(t, w, block(a))
	hears(t, w, block())
	asksTx(t, w, id, 1)
	asksSpend(t, w, p)
	loses(t, w, 0)
	loses(t, w, 1)
	hears(t, w, block(), stands(id, a, 6), isDeep(id, 6, 1), spent(p, a, 6))
	asksTx(t, w, id, 2)
	hears(t, w, block(), stands(id, a, 6), isDeep(id, 6, 2))
	hears(t, w, block())
}

// TestP14_2GoneAheadOfBlock: what stood when it was asked for, and was taken back ahead of the next block, is not told.
func TestP14_2GoneAheadOfBlock(t *testing.T) {
	p := point("a", 0)
	a, b := signed(1, 1, p), signed(2, 1, p)
	w := New(5)
	hears(t, w, block(a))
	asksTx(t, w, idOf(t, a), 1)
	asksSpend(t, w, p)
	loses(t, w, 1)
	hears(t, w, block(b), spent(p, b, 6))
	hears(t, w, block(a), stands(idOf(t, a), a, 7), isDeep(idOf(t, a), 7, 1))
}

// A sight is what is found in these blocks, from number 11 on; at 0: nothing is.
type sight struct {
	blocks []api.Block
	by     api.Signed
	at     int
}

// holds asks for the notice where it is asked for ahead of the blocks, and where it is behind them: then it comes with the next block, which has only another transaction. Where nothing is found, it comes with the one behind, which has these.
func (x sight) holds(t *testing.T, name string, ask func(*Watch), notice func(api.Signed, int) api.Notice, other api.Signed, these ...api.Signed) {
	t.Helper()
	early, late := New(10), New(10)
	ask(early)
	for i, b := range x.blocks {
		hears(t, early, b, onlyIf(11+i == x.at, notice(x.by, x.at))...)
		hears(t, late, b)
	}
	ask(late)
	areNotices(t, name, late.Block(block(other)), onlyIf(x.at > 0, notice(x.by, x.at)))
	for _, w := range []*Watch{early, late} {
		hears(t, w, block(these...), onlyIf(x.at == 0, notice(these[0], w.Height()+1))...)
		hears(t, w, block(these...))
	}
}

func onlyIf(so bool, l ...api.Notice) []api.Notice {
	if !so {
		return nil
	}
	return l
}

// TestP14_3Found: where a transaction stands that was asked for ahead of these blocks, and behind them; At 0: it is not found.
func TestP14_3Found(t *testing.T) {
	a, other, twin := signed(1, 1, point("a", 0)), signed(2, 1, point("b", 0)), signed(1, 2, point("a", 0))
	bare := api.Signed{Tx: a.Tx}
	id := idOf(t, a)
	is(t, "the other's id", idOf(t, twin), id)
	for name, x := range map[string]sight{
		"none":                      {[]api.Block{block(), block()}, a, 0},
		"another one":               {[]api.Block{block(other), block(other, other)}, a, 0},
		"the last block":            {[]api.Block{block(other), block(), block(a)}, a, 13},
		"an elder one":              {[]api.Block{block(), block(a), block(other)}, a, 12},
		"the first one":             {[]api.Block{block(a), block(), block()}, a, 11},
		"among others":              {[]api.Block{block(), block(other, a, other)}, a, 12},
		"several":                   {[]api.Block{block(), block(twin), block(a), block(a)}, twin, 12},
		"twice in one":              {[]api.Block{block(other, twin, a)}, twin, 11},
		"twice in one, the others":  {[]api.Block{block(a, twin)}, a, 11},
		"twice, and behind":         {[]api.Block{block(), block(a, twin), block(twin)}, a, 12},
		"no right one":              {[]api.Block{block(spoilt(a)), block(spoilt(twin))}, a, 0},
		"a right one behind":        {[]api.Block{block(spoilt(a)), block(spoilt(a), twin, a)}, twin, 12},
		"one without witnesses":     {[]api.Block{block(bare), block(a)}, bare, 11},
		"one with wrong witnesses":  {[]api.Block{block(api.Signed{Tx: a.Tx, Wits: []api.Witness{{Sigs: []api.Term{"no term"}}, {}, {}}})}, api.Signed{Tx: a.Tx, Wits: []api.Witness{{Sigs: []api.Term{"no term"}}, {}, {}}}, 11},
		"a list without anything":   {[]api.Block{{Txs: []api.Signed{}}, block(a)}, a, 12},
		"one of which nothing is":   {[]api.Block{block(api.Signed{}), block(a)}, a, 12},
		"more than a ledger's have": {[]api.Block{block(append(slices.Repeat([]api.Signed{other}, 200), a)...)}, a, 11},
	} {
		x.holds(t, name, func(w *Watch) { asksTx(t, w, id, 1<<20) }, func(by api.Signed, at int) api.Notice { return stands(id, by, at) }, other, a, twin)
	}
}

// TestP14_3NoID: what is no right transaction has no id, not even an empty one.
func TestP14_3NoID(t *testing.T) {
	w := New(0)
	asksTx(t, w, "", 1)
	wrong := []api.Signed{{}, spoilt(signed(1, 1)), {Tx: api.Tx{Tag: 5}}, {Tx: api.Tx{Outs: []api.Out{{Value: 1, Lock: loop()}}}}}
	for _, s := range wrong {
		id, e := tx.ID(s.Tx)
		is(t, "ID", e, api.ErrTx)
		is(t, "ID", id, "")
		hears(t, w, block(s))
	}
	hears(t, w, block(wrong...))
}

// TestP14_3Spent: which transaction spends a Point that was asked for ahead of these blocks, and behind them; At 0: none.
func TestP14_3Spent(t *testing.T) {
	p, q, r := point("a", 3), point("b", 3), point("a", 4)
	only, first, mid, last, none := signed(1, 1, p), signed(2, 1, p, q, r), signed(3, 1, q, p, r), signed(4, 1, q, r, p), signed(5, 1, q, r)
	twice := spoilt(signed(6, 1, q, p, p))
	for name, x := range map[string]sight{
		"none":                      {[]api.Block{block(), block()}, only, 0},
		"others":                    {[]api.Block{block(none), block(signed(7, 1), none)}, only, 0},
		"the only In":               {[]api.Block{block(none), block(none, only)}, only, 12},
		"the first In":              {[]api.Block{block(first), block()}, first, 11},
		"one amid":                  {[]api.Block{block(), block(mid, none)}, mid, 12},
		"the last In":               {[]api.Block{block(none), block(), block(none, last)}, last, 13},
		"several blocks":            {[]api.Block{block(), block(last), block(first), block(only)}, last, 12},
		"twice in one":              {[]api.Block{block(none, mid, only)}, mid, 11},
		"twice in one, the others":  {[]api.Block{block(none, only, mid)}, only, 11},
		"twice, and behind":         {[]api.Block{block(), block(first, only), block(mid)}, first, 12},
		"no right one":              {[]api.Block{block(spoilt(last)), block(only)}, spoilt(last), 11},
		"twice by one":              {[]api.Block{block(none), block(twice, only)}, twice, 12},
		"without witnesses":         {[]api.Block{block(api.Signed{Tx: last.Tx}), block(last)}, api.Signed{Tx: last.Tx}, 11},
		"the same one twice":        {[]api.Block{block(only), block(only)}, only, 11},
		"more than a ledger's have": {[]api.Block{block(append(slices.Repeat([]api.Signed{none}, 200), last)...)}, last, 11},
	} {
		x.holds(t, name, func(w *Watch) { asksSpend(t, w, p) }, func(by api.Signed, at int) api.Notice { return spent(p, by, at) }, none, mid, only)
	}
}

// TestP14_3OtherPoints: a Point is its Tx and its N.
func TestP14_3OtherPoints(t *testing.T) {
	p := point("a", 3)
	w := New(0)
	asksSpend(t, w, p)
	asksSpend(t, w, api.Point{})
	for _, q := range []api.Point{point("a", 2), point("a", 4), point("b", 3), {Tx: p.Tx[:63], N: 3}, {Tx: p.Tx + "a", N: 3}, {Tx: strings.ToUpper(p.Tx), N: 3}, {N: 3}, {Tx: p.Tx, N: -3}} {
		hears(t, w, block(signed(1, 1, q)))
	}
	s := signed(1, 1, api.Point{}, p)
	hears(t, w, block(s), spent(p, s, 9), spent(api.Point{}, s, 9))
}

// TestP14_3Deep: asked for ahead of the block with it, a transaction is deep enough just that many blocks later, the block itself counted.
func TestP14_3Deep(t *testing.T) {
	a := signed(1, 1, point("a", 0))
	id := idOf(t, a)
	for deep := 1; deep <= 9; deep++ {
		w := New(20)
		asksTx(t, w, id, deep)
		hears(t, w, block())
		for n := 1; n <= 12; n++ {
			var want []api.Notice
			b := block()
			if n == 1 {
				b, want = block(a), append(want, stands(id, a, 22))
			}
			if n == deep {
				want = append(want, isDeep(id, 22, deep))
			}
			hears(t, w, b, want...)
		}
	}
}

// TestP14_3DeepLate: asked for behind it, with so many blocks from its own on, the next one counted.
func TestP14_3DeepLate(t *testing.T) {
	a := signed(1, 1, point("a", 0))
	id := idOf(t, a)
	for deep := 1; deep <= 7; deep++ {
		for there := 1; there <= 10; there++ {
			w := New(0)
			hears(t, w, block(a))
			for range there - 1 {
				hears(t, w, block())
			}
			asksTx(t, w, id, deep)
			for n := there + 1; n <= 12; n++ {
				var want []api.Notice
				if n == there+1 {
					want = append(want, stands(id, a, 1))
				}
				if n == max(deep, there+1) {
					want = append(want, isDeep(id, 1, deep))
				}
				hears(t, w, block(), want...)
			}
		}
	}
}

func TestP14_3Deepest(t *testing.T) {
	a := signed(1, 1, point("a", 0))
	id := idOf(t, a)
	w := New(1 << 30)
	asksTx(t, w, id, 1<<20)
	asksTx(t, w, id, 1<<20-1)
	hears(t, w, block(a), stands(id, a, 1<<30+1), stands(id, a, 1<<30+1))
	for range 1<<20 - 3 {
		if l := w.Block(block()); len(l) > 0 {
			t.Fatalf("%+v", l)
		}
	}
	hears(t, w, block(), isDeep(id, 1<<30+1, 1<<20-1))
	hears(t, w, block(), isDeep(id, 1<<30+1, 1<<20))
	hears(t, w, block())
	loses(t, w, 3)
	hears(t, w, block(), isDeep(id, 1<<30+1, 1<<20-1))
	hears(t, w, block(), isDeep(id, 1<<30+1, 1<<20))
	is(t, "Height", w.Height(), 1<<30+1<<20)
}

// TestP14_3Both: a transaction and the spend that it makes, asked for in either order.
func TestP14_3Both(t *testing.T) {
	p := point("a", 0)
	a := signed(1, 1, point("b", 0), p)
	id := idOf(t, a)
	w := New(5)
	asksTx(t, w, id, 1)
	asksSpend(t, w, p)
	hears(t, w, block(a), stands(id, a, 6), isDeep(id, 6, 1), spent(p, a, 6))
	loses(t, w, 1, standsBack(id, a, 6), spentBack(p, a, 6))
	w = New(5)
	asksSpend(t, w, p)
	asksTx(t, w, id, 1)
	hears(t, w, block(a), spent(p, a, 6), stands(id, a, 6), isDeep(id, 6, 1))
	loses(t, w, 1, spentBack(p, a, 6), standsBack(id, a, 6))
}

// TestP14_3Order: notices stand in the order of the asks, wherever in the blocks what they tell of stands.
func TestP14_3Order(t *testing.T) {
	p, q, r := point("a", 0), point("b", 0), point("c", 0)
	a, b, c := signed(1, 1, p), signed(2, 1, q), signed(3, 1, r)
	i, j, k := idOf(t, a), idOf(t, b), idOf(t, c)
	w := New(0)
	hears(t, w, block(c))
	asksTx(t, w, j, 3)
	asksSpend(t, w, r)
	asksTx(t, w, i, 2)
	asksTx(t, w, j, 1)
	asksSpend(t, w, p)
	asksTx(t, w, k, 2)
	asksTx(t, w, i, 1)
	asksSpend(t, w, q)
	asksTx(t, w, j, 2)
	hears(t, w, block(b), stands(j, b, 2), spent(r, c, 1), stands(j, b, 2), isDeep(j, 2, 1), stands(k, c, 1), isDeep(k, 1, 2), spent(q, b, 2), stands(j, b, 2))
	hears(t, w, block(a), stands(i, a, 3), spent(p, a, 3), stands(i, a, 3), isDeep(i, 3, 1), isDeep(j, 2, 2))
	hears(t, w, block(), isDeep(j, 2, 3), isDeep(i, 3, 2))
	loses(t, w, 4, standsBack(j, b, 2), spentBack(r, c, 1), standsBack(i, a, 3), standsBack(j, b, 2), spentBack(p, a, 3), standsBack(k, c, 1), standsBack(i, a, 3), spentBack(q, b, 2), standsBack(j, b, 2))
	hears(t, w, block(a, b, c), stands(j, b, 1), spent(r, c, 1), stands(i, a, 1), stands(j, b, 1), isDeep(j, 1, 1), spent(p, a, 1), stands(k, c, 1), stands(i, a, 1), isDeep(i, 1, 1), spent(q, b, 1), stands(j, b, 1))
}

func TestP14_4Errors(t *testing.T) {
	a := signed(1, 1, point("a", 0))
	id := idOf(t, a)
	w := New(50)
	asksTx(t, w, id, 1)
	asksSpend(t, w, point("a", 0))
	for blocks := range 10 {
		for _, n := range []int{math.MinInt, -7, -1} {
			refuses(t, w, n, api.ErrArg)
		}
		for _, n := range []int{7, 8, 50, 1 << 32, math.MaxInt} {
			refuses(t, w, n, api.ErrReorg)
		}
		for n := blocks + 1; n <= 6; n++ {
			refuses(t, w, n, api.ErrReorg)
		}
		loses(t, w, 0)
		if blocks == 0 {
			hears(t, w, block(a), stands(id, a, 51), isDeep(id, 51, 1), spent(point("a", 0), a, 51))
		} else {
			hears(t, w, block(a))
		}
	}
	loses(t, w, 6)
	refuses(t, w, 5, api.ErrReorg)
	loses(t, w, 4, standsBack(id, a, 51), spentBack(point("a", 0), a, 51))
	refuses(t, w, 1, api.ErrReorg)
	loses(t, w, 0)
	is(t, "Height", w.Height(), 50)
}

// TestP14_4Most: as many blocks as may be, at once; they are all that there are, and they are not.
func TestP14_4Most(t *testing.T) {
	a := signed(1, 1, point("a", 0))
	id := idOf(t, a)
	for more := range 3 {
		w := New(7)
		asksTx(t, w, id, 2)
		for range more {
			hears(t, w, block())
		}
		hears(t, w, block(a), stands(id, a, 8+more))
		hears(t, w, block(), isDeep(id, 8+more, 2))
		for range 4 {
			hears(t, w, block())
		}
		refuses(t, w, 7, api.ErrReorg)
		loses(t, w, 6, standsBack(id, a, 8+more))
		is(t, "Height", w.Height(), 7+more)
		hears(t, w, block(a), stands(id, a, 8+more))
	}
}

// TestP14_4WhatStays: what stands ahead of what is taken back stays told.
func TestP14_4WhatStays(t *testing.T) {
	p, q := point("a", 0), point("b", 0)
	a, b := signed(1, 1, p), signed(2, 1, q)
	i, j := idOf(t, a), idOf(t, b)
	w := New(0)
	asksTx(t, w, i, 1)
	asksTx(t, w, j, 1)
	asksSpend(t, w, p)
	asksSpend(t, w, q)
	hears(t, w, block(a), stands(i, a, 1), isDeep(i, 1, 1), spent(p, a, 1))
	hears(t, w, block(a, b), stands(j, b, 2), isDeep(j, 2, 1), spent(q, b, 2))
	hears(t, w, block(a, b))
	loses(t, w, 1)
	loses(t, w, 1, standsBack(j, b, 2), spentBack(q, b, 2))
	loses(t, w, 0)
	hears(t, w, block(a))
	hears(t, w, block(b), stands(j, b, 3), isDeep(j, 3, 1), spent(q, b, 3))
	loses(t, w, 3, standsBack(i, a, 1), standsBack(j, b, 3), spentBack(p, a, 1), spentBack(q, b, 3))
}

// TestP14_4AsTold: By and At are those that were told, though the same stands in other blocks too, with other witnesses.
func TestP14_4AsTold(t *testing.T) {
	p := point("a", 0)
	a, twin, other := signed(1, 1, p), signed(1, 2, p), signed(2, 1, p)
	id := idOf(t, a)
	w := New(0)
	asksTx(t, w, id, 2)
	asksSpend(t, w, p)
	hears(t, w, block())
	hears(t, w, block(other, twin, a), stands(id, twin, 2), spent(p, other, 2))
	hears(t, w, block(a), isDeep(id, 2, 2))
	loses(t, w, 2, standsBack(id, twin, 2), spentBack(p, other, 2))
	hears(t, w, block(a, other), stands(id, a, 2), spent(p, a, 2))
	loses(t, w, 1, standsBack(id, a, 2), spentBack(p, a, 2))
	loses(t, w, 1)
	hears(t, w, block(twin), stands(id, twin, 1), spent(p, twin, 1))
}

// TestP14_4Deep: what is deep enough no longer is told anew, when it is again; that it is no longer is not told.
func TestP14_4Deep(t *testing.T) {
	a := signed(1, 1, point("a", 0))
	id := idOf(t, a)
	for deep := 1; deep <= 6; deep++ {
		for back := range 7 {
			w := New(0)
			asksTx(t, w, id, deep)
			hears(t, w, block())
			hears(t, w, block(a), append([]api.Notice{stands(id, a, 2)}, onlyIf(deep == 1, isDeep(id, 2, 1))...)...)
			for n := 2; n <= 7; n++ {
				hears(t, w, block(), onlyIf(n == deep, isDeep(id, 2, deep))...)
			}
			loses(t, w, back)
			for n := 8 - back; n <= 9; n++ {
				hears(t, w, block(), onlyIf(n == deep, isDeep(id, 2, deep))...)
			}
		}
	}
}

// TestP14_4OneByOne: blocks that are taken back one by one tell the same as all at once, in their own order.
func TestP14_4OneByOne(t *testing.T) {
	a, b := signed(1, 1, point("a", 0)), signed(2, 1, point("b", 0))
	i, j := idOf(t, a), idOf(t, b)
	w := New(0)
	asksTx(t, w, i, 2)
	asksTx(t, w, j, 2)
	hears(t, w, block(a), stands(i, a, 1))
	hears(t, w, block(b), isDeep(i, 1, 2), stands(j, b, 2))
	hears(t, w, block(), isDeep(j, 2, 2))
	loses(t, w, 1)
	loses(t, w, 1, standsBack(j, b, 2))
	loses(t, w, 1, standsBack(i, a, 1))
	hears(t, w, block(b), stands(j, b, 1))
	hears(t, w, block(a), stands(i, a, 2), isDeep(j, 1, 2))
	hears(t, w, block(), isDeep(i, 2, 2))
	loses(t, w, 3, standsBack(i, a, 2), standsBack(j, b, 1))
}

// TestP14_4Then: behind blocks that were taken back, the same ones tell the same, others their own, and none nothing.
func TestP14_4Then(t *testing.T) {
	p := point("a", 0)
	a, other := signed(1, 1, p), signed(2, 1, p)
	id := idOf(t, a)
	blocks := []api.Block{block(a), block(), block(other)}
	told := [][]api.Notice{{stands(id, a, 5), spent(p, a, 5)}, nil, {isDeep(id, 5, 3)}}
	start := func() *Watch {
		w := New(4)
		asksTx(t, w, id, 3)
		asksSpend(t, w, p)
		for i, b := range blocks {
			hears(t, w, b, told[i]...)
		}
		loses(t, w, 3, standsBack(id, a, 5), spentBack(p, a, 5))
		return w
	}
	w := start()
	for i, b := range blocks {
		hears(t, w, b, told[i]...)
	}
	w = start()
	hears(t, w, block(other), spent(p, other, 5))
	hears(t, w, block(other))
	hears(t, w, block(a), stands(id, a, 7))
	hears(t, w, block())
	hears(t, w, block(), isDeep(id, 7, 3))
	w = start()
	for range 9 {
		hears(t, w, block())
	}
	loses(t, w, 6)
}

// TestP14_4JustTold: a block is taken back right behind it was told, again and again.
func TestP14_4JustTold(t *testing.T) {
	p := point("a", 0)
	a := signed(1, 1, p)
	id := idOf(t, a)
	w := New(4)
	asksTx(t, w, id, 1)
	asksSpend(t, w, p)
	for range 5 {
		hears(t, w, block(a), stands(id, a, 5), isDeep(id, 5, 1), spent(p, a, 5))
		loses(t, w, 1, standsBack(id, a, 5), spentBack(p, a, 5))
		loses(t, w, 0)
	}
}

// TestP14_4AskedAmid: an ask that no block followed has nothing to lose.
func TestP14_4AskedAmid(t *testing.T) {
	p := point("a", 0)
	a := signed(1, 1, p)
	id := idOf(t, a)
	w := New(4)
	asksTx(t, w, id, 1)
	hears(t, w, block(a), stands(id, a, 5), isDeep(id, 5, 1))
	asksTx(t, w, id, 2)
	asksSpend(t, w, p)
	loses(t, w, 1, standsBack(id, a, 5))
	hears(t, w, block())
	hears(t, w, block(a), stands(id, a, 6), isDeep(id, 6, 1), stands(id, a, 6), spent(p, a, 6))
}

func TestP14_5(t *testing.T) {
	w := New(100)
	for i := range 20 {
		is(t, "Height", w.Height(), 100+i)
		is(t, "Asks", w.Asks(), 2*i)
		w.Block(block(signed(1, 1, point("a", 0))))
		w.Tx("x", i+1)
		w.Spend(point("a", i))
		is(t, "Height", w.Height(), 101+i)
	}
	w.Back(6)
	is(t, "Height", w.Height(), 114)
	w.Back(7)
	w.Back(-1)
	is(t, "Height", w.Height(), 114)
	is(t, "Asks", w.Asks(), 40)
	w.Back(6)
	w.Block(block())
	is(t, "Height", w.Height(), 109)
	is(t, "Asks", w.Asks(), 40)
}

// TestOddTransactions: whatever stands in a block, the call ends, and what else stands there is told.
func TestOddTransactions(t *testing.T) {
	p := point("a", 0)
	a := signed(1, 1, point("b", 0))
	deepest := signed(2, 1, p)
	deepest.Tx.Outs[0].Lock = deepLock(1 << 16)
	for name, odd := range map[string]api.Signed{
		"nothing": {}, "very many Ins": {Tx: api.Tx{Ins: make([]api.In, 1<<20)}}, "very many Outs": {Tx: api.Tx{Outs: make([]api.Out, 1<<20)}}, "very many Wits": {Tx: a.Tx, Wits: make([]api.Witness, 1<<16)},
		"wild numbers": {Tx: api.Tx{Ins: []api.In{{Point: api.Point{N: math.MinInt}, Age: math.MaxInt}}, Outs: []api.Out{{Value: math.MinInt64}}, After: math.MinInt, Tag: math.MinInt64}}, "wild texts": {Tx: api.Tx{Ins: []api.In{{Point: api.Point{Tx: "\xff"}}}}, Wits: []api.Witness{{Sigs: []api.Term{"\x00"}, Pres: slices.Repeat([]api.Term{"n"}, 100)}}},
		"a deep lock": deepest,
	} {
		w := New(0)
		asksSpend(t, w, p)
		asksSpend(t, w, point("b", 0))
		asksTx(t, w, idOf(t, a), 1)
		var want []api.Notice
		if name == "a deep lock" {
			want = append(want, spent(p, odd, 1))
		}
		by := a
		if name == "very many Wits" {
			by = odd
		}
		hears(t, w, block(odd, a), append(want, spent(point("b", 0), by, 1), stands(idOf(t, a), by, 1), isDeep(idOf(t, a), 1, 1))...)
	}
}

// TestEndlessLock: a lock that stands within itself can't be told whole; all else of its transaction is.
func TestEndlessLock(t *testing.T) {
	p := point("a", 0)
	s := signed(1, 1, p)
	s.Tx.Outs = append(s.Tx.Outs, api.Out{Value: 7, Lock: loop()})
	w := New(0)
	asksSpend(t, w, p)
	l := w.Block(block(s))
	is(t, "notices", len(l), 1)
	outs := l[0].By.Tx.Outs
	is(t, "Outs", len(outs), 2)
	is(t, "the first one", sameOut(outs[0], s.Tx.Outs[0]), true)
	is(t, "the Value", outs[1].Value, 7)
	is(t, "right", tx.Right(l[0].By.Tx), false)
	l[0].By.Tx.Outs = s.Tx.Outs[:1]
	s.Tx.Outs = s.Tx.Outs[:1]
	areNotices(t, "Block", l, []api.Notice{spent(p, s, 1)})
	back, e := w.Back(1)
	is(t, "Back", e, api.OK)
	is(t, "notices", len(back), 1)
	is(t, "Kind", back[0].Kind, 5)
}
