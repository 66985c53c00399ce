package watch

import (
	"fmt"
	"math"
	"math/rand"
	"testing"

	"sluiceway/api"
	"sluiceway/tx"
)

// A want is one ask of a model: for a transaction, or for a spend.
type want struct {
	isTx    bool
	id      string
	deep    int
	point   api.Point
	at      int // 0: it was not told to be there
	by      api.Signed
	wasDeep bool // and told so
}

// A model is a watcher made by other means: of each ask all blocks are searched each time, with all ids made anew.
type model struct {
	start  int
	blocks []api.Block
	wants  []want
}

func (m *model) height() int { return m.start + len(m.blocks) }

func (m *model) ask(x want) api.Errno {
	if x.isTx && (x.deep < 1 || x.deep > 1048576) {
		return api.ErrArg
	}
	for _, y := range m.wants {
		if x.isTx == y.isTx && x.id == y.id && x.deep == y.deep && x.point == y.point {
			return api.ErrTwice
		}
	}
	if len(m.wants) == 1024 {
		return api.ErrLimit
	}
	m.wants = append(m.wants, x)
	return api.OK
}

// search tells the first transaction in these blocks, and in which it stands; 0: in none.
func (m *model) search(x want) (api.Signed, int) {
	for i, b := range m.blocks {
		for _, s := range b.Txs {
			if x.isTx {
				if id, e := tx.ID(s.Tx); e == api.OK && id == x.id {
					return s, m.start + 1 + i
				}
				continue
			}
			for _, in := range s.Tx.Ins {
				if in.Point == x.point {
					return s, m.start + 1 + i
				}
			}
		}
	}
	return api.Signed{}, 0
}

func (m *model) block(b api.Block) []api.Notice {
	m.blocks = append(m.blocks[:len(m.blocks):len(m.blocks)], b)
	var l []api.Notice
	for i := range m.wants {
		x := &m.wants[i]
		isNew := false
		if x.at == 0 {
			x.by, x.at = m.search(*x)
			isNew = x.at > 0
		}
		switch {
		case isNew && x.isTx:
			l = append(l, stands(x.id, x.by, x.at))
		case isNew:
			l = append(l, spent(x.point, x.by, x.at))
		}
		if x.isTx && x.at > 0 && !x.wasDeep && m.height()-x.at+1 >= x.deep {
			x.wasDeep = true
			l = append(l, isDeep(x.id, x.at, x.deep))
		}
	}
	return l
}

func (m *model) back(n int) ([]api.Notice, api.Errno) {
	if n < 0 {
		return nil, api.ErrArg
	}
	if n > 6 || n > len(m.blocks) {
		return nil, api.ErrReorg
	}
	m.blocks = m.blocks[:len(m.blocks)-n]
	var l []api.Notice
	for i := range m.wants {
		x := &m.wants[i]
		if x.at == 0 {
			continue
		}
		if x.isTx && m.height()-x.at+1 < x.deep {
			x.wasDeep = false
		}
		if x.at <= m.height() {
			continue
		}
		if x.isTx {
			l = append(l, standsBack(x.id, x.by, x.at))
		} else {
			l = append(l, spentBack(x.point, x.by, x.at))
		}
		x.by, x.at = api.Signed{}, 0
	}
	return l, api.OK
}

// A drawer draws what is done to a watcher, out of few transactions and Points, so that much of it is met again.
type drawer struct {
	*rand.Rand
	txs    []api.Signed
	ids    []string
	points []api.Point
}

func newDrawer(seed int64) *drawer {
	d := &drawer{Rand: rand.New(rand.NewSource(seed)), ids: []string{"", "x", point("f", 0).Tx}}
	for i := range 8 {
		d.points = append(d.points, point(fmt.Sprint(i/2), i%2))
	}
	for tag := range int64(2 + d.Intn(8)) {
		var points []api.Point
		for _, i := range d.Perm(len(d.points))[:d.Intn(4)] {
			points = append(points, d.points[i])
		}
		d.add(signed(tag, 1, points...))
	}
	return d
}

// add takes a transaction, perhaps one that is not right, and perhaps with another witness too.
func (d *drawer) add(s api.Signed) {
	id, _ := tx.ID(s.Tx)
	d.ids = append(d.ids, id)
	if d.Intn(5) == 0 {
		s = spoilt(s)
	}
	d.txs = append(d.txs, s)
	if d.Intn(4) == 0 {
		s.Wits = []api.Witness{{Pres: []api.Term{"n9;"}}}
		d.txs = append(d.txs, s)
	}
}

func (d *drawer) block() api.Block {
	var b api.Block
	for range max(0, d.Intn(6)-2) {
		b.Txs = append(b.Txs, d.txs[d.Intn(len(d.txs))])
	}
	return b
}

func (d *drawer) want() want {
	if d.Intn(2) == 0 {
		return want{point: d.points[d.Intn(len(d.points))]}
	}
	deeps := []int{1, 1, 2, 2, 3, 4, 5, 8, 0, -1, 1 << 20, 1<<20 + 1, math.MinInt}
	return want{isTx: true, id: d.ids[d.Intn(len(d.ids))], deep: deeps[d.Intn(len(deeps))]}
}

func (d *drawer) back() int {
	return []int{0, 1, 1, 2, 2, 3, 4, 5, 6, 7, -1, math.MinInt, math.MaxInt}[d.Intn(13)]
}

// asks asks a watcher for what a model is asked for.
func asks(w *Watch, x want) api.Errno {
	if x.isTx {
		return w.Tx(x.id, x.deep)
	}
	return w.Spend(x.point)
}

// TestModel holds all calls against the model, over drawn rows of them.
func TestModel(t *testing.T) {
	errors, kinds := map[api.Errno]int{}, map[uint8]int{}
	for seed := range int64(3000) {
		d := newDrawer(seed)
		m := &model{start: d.Intn(3) * 100}
		w := New(m.start)
		for range 40 {
			var have, wanted []api.Notice
			var e, wantedE api.Errno
			switch d.Intn(8) {
			case 0, 1:
				x := d.want()
				e, wantedE = asks(w, x), m.ask(x)
			case 2, 3:
				n := d.back()
				have, e = w.Back(n)
				wanted, wantedE = m.back(n)
			default:
				b := d.block()
				have, wanted = w.Block(b), m.block(b)
			}
			is(t, "the error", e, wantedE)
			areNotices(t, "the notices", have, wanted)
			is(t, "Height", w.Height(), m.height())
			is(t, "Asks", w.Asks(), len(m.wants))
			errors[e]++
			for _, n := range have {
				kinds[n.Kind]++
			}
		}
	}
	for _, e := range []api.Errno{api.OK, api.ErrArg, api.ErrTwice, api.ErrReorg} {
		if errors[e] < 1000 {
			t.Errorf("error %d came %d times: too few", e, errors[e])
		}
	}
	for kind := uint8(1); kind <= 5; kind++ {
		if kinds[kind] < 1500 {
			t.Errorf("kind %d came %d times: too few", kind, kinds[kind])
		}
	}
}

// TestModelFull: the same of a watcher with as many asks as may be.
func TestModelFull(t *testing.T) {
	for seed := range int64(2) {
		d := newDrawer(seed)
		m, w := &model{}, New(0)
		for i := range 2000 {
			if i%50 == 0 {
				b := d.block()
				areNotices(t, "Block", w.Block(b), m.block(b))
			}
			if i%90 == 0 {
				have, e := w.Back(2)
				wanted, wantedE := m.back(2)
				is(t, "Back", e, wantedE)
				areNotices(t, "Back", have, wanted)
			}
			x := want{isTx: true, id: d.ids[d.Intn(len(d.ids))], deep: 1 + d.Intn(400)}
			is(t, "an ask", asks(w, x), m.ask(x))
		}
		is(t, "Asks", w.Asks(), 1024)
	}
}

// wantsOf are asks of many kinds, none of them twice.
func wantsOf(d *drawer) []want {
	var l []want
	for _, id := range d.ids {
		for deep := 1; deep <= 3; deep++ {
			l = append(l, want{isTx: true, id: id, deep: deep})
		}
	}
	for _, p := range d.points {
		l = append(l, want{point: p})
	}
	d.Shuffle(len(l), func(i, j int) { l[i], l[j] = l[j], l[i] })
	return l
}
