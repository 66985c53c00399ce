package watch

import (
	"testing"

	"sluiceway/api"
)

// A hearer is one ask's owner: what it was told last, by the notices alone.
type hearer struct {
	want
	isThere bool
	isDeep  bool
}

// hear takes one notice; it must be of the ask, and say something new.
func (h *hearer) hear(t *testing.T, n api.Notice) {
	t.Helper()
	is(t, "the Point", n.Point, h.point)
	now := n.Kind == 1 || n.Kind == 2
	switch n.Kind {
	case 3:
		is(t, "deep enough ahead of standing", h.isThere, true)
		is(t, "deep enough twice", h.isDeep, false)
		is(t, "At", n.At, h.at)
		h.isDeep = true
	case 4, 5:
		is(t, "what it was told of", sameSigned(n.By, h.by), true)
		is(t, "At", n.At, h.at)
		h.isDeep = false
		fallthrough
	default:
		is(t, "told twice", h.isThere, !now)
		is(t, "the kind", n.Kind%3 == 1, h.isTx)
		h.isThere, h.by, h.at = now, n.By, n.At
	}
}

// holds asks that what was told last is what the blocks say.
func (h *hearer) holds(t *testing.T, m *model) {
	t.Helper()
	by, at := m.search(want{isTx: h.isTx, id: h.point.Tx, point: h.point})
	is(t, "told to be there", h.isThere, at > 0)
	if h.isThere {
		is(t, "At", h.at, at)
		is(t, "By", sameSigned(h.by, by), true)
	}
	is(t, "told to be deep enough", h.isDeep, h.isTx && at > 0 && m.height()-at+1 >= h.deep)
}

// back takes note that blocks are gone: that something is no longer deep enough is not told.
func (h *hearer) back(height int) {
	h.isDeep = h.isDeep && height-h.at+1 >= h.deep
}

// TestP14_6WhatIsThere: of each ask, by the notices that it alone gets, from the first block behind the asking on.
func TestP14_6WhatIsThere(t *testing.T) {
	for seed := range int64(300) {
		d := newDrawer(5000 + seed)
		for _, x := range wantsOf(d) {
			m := &model{start: 30}
			w := New(30)
			for range d.Intn(6) {
				b := d.block()
				m.block(b)
				hears(t, w, b)
			}
			is(t, "an ask", asks(w, x), api.OK)
			h := &hearer{want: x}
			if x.isTx {
				h.point = api.Point{Tx: x.id}
			}
			for range 12 {
				if n := min(d.Intn(10)-5, len(m.blocks)); n >= 0 {
					m.back(n)
					l, e := w.Back(n)
					is(t, "Back", e, api.OK)
					h.back(m.height())
					for _, n := range l {
						h.hear(t, n)
					}
				}
				b := d.block()
				m.block(b)
				for _, n := range w.Block(b) {
					h.hear(t, n)
				}
				h.holds(t, m)
			}
		}
	}
}

// TestP14_6EachByItself: a watcher with many asks tells of each what one with this ask alone tells, in the asks' order.
func TestP14_6EachByItself(t *testing.T) {
	count := 0
	for seed := range int64(200) {
		d := newDrawer(9000 + seed)
		all, wants := New(7), wantsOf(d)
		var each []*Watch
		var blocks []api.Block
		for range 25 {
			for range min(d.Intn(6), len(wants)) {
				is(t, "an ask", asks(all, wants[0]), api.OK)
				w := New(7)
				for _, b := range blocks {
					hears(t, w, b)
				}
				is(t, "an ask", asks(w, wants[0]), api.OK)
				each, wants = append(each, w), wants[1:]
			}
			var together []api.Notice
			if n := d.Intn(4); d.Intn(3) == 0 && n <= len(blocks) {
				blocks = blocks[:len(blocks)-n]
				for _, w := range each {
					l, _ := w.Back(n)
					together = append(together, l...)
				}
				l, e := all.Back(n)
				is(t, "Back", e, api.OK)
				areNotices(t, "Back", l, together)
			} else {
				b := d.block()
				blocks = append(blocks[:len(blocks):len(blocks)], b)
				for _, w := range each {
					together = append(together, w.Block(b)...)
				}
				areNotices(t, "Block", all.Block(b), together)
			}
			count += len(together)
		}
	}
	if count < 5000 {
		t.Errorf("%d notices: too few", count)
	}
}

// TestP14_6BlocksAlone: what a first block behind the asking tells hangs on the blocks that are there, not on what came and went.
func TestP14_6BlocksAlone(t *testing.T) {
	for seed := range int64(200) {
		d := newDrawer(12000 + seed)
		m, w := &model{start: 3}, New(3)
		for range 30 {
			b := d.block()
			m.block(b)
			w.Block(b)
			if n := d.Intn(4); n <= len(m.blocks) && d.Intn(2) == 0 {
				m.back(n)
				w.Back(n)
			}
		}
		fresh := New(3)
		for _, b := range m.blocks {
			hears(t, fresh, b)
		}
		for _, x := range wantsOf(d) {
			is(t, "an ask", asks(w, x), api.OK)
			is(t, "an ask", asks(fresh, x), api.OK)
		}
		for range 5 {
			b := d.block()
			areNotices(t, "Block", w.Block(b), fresh.Block(b))
			n := d.Intn(7)
			have, e := w.Back(n)
			wanted, wantedE := fresh.Back(n)
			is(t, "Back", e, wantedE)
			areNotices(t, "Back", have, wanted)
		}
	}
}
