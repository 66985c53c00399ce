package watch

import (
	"cmp"
	"fmt"
	"reflect"
	"slices"
	"strings"
	"testing"
	"unsafe"

	"sluiceway/api"
	"sluiceway/lock"
)

// A place is where something lies in memory. It holds a pointer, not a number: what lies there must outlive the question, lest its memory be given to a later answer.
type place struct {
	from unsafe.Pointer
	size uintptr
}

func (p place) start() uintptr { return uintptr(p.from) }

// places are those of all texts and lists within a thing, of lists up to what they have room for.
func places(v reflect.Value) []place {
	var all []place
	switch v.Kind() {
	case reflect.String:
		if v.Len() > 0 {
			all = append(all, place{v.UnsafePointer(), uintptr(v.Len())})
		}
	case reflect.Slice:
		if v.Cap() > 0 {
			all = append(all, place{v.UnsafePointer(), uintptr(v.Cap()) * v.Type().Elem().Size()})
		}
		for i := range v.Len() {
			all = append(all, places(v.Index(i))...)
		}
	case reflect.Struct:
		for i := range v.NumField() {
			all = append(all, places(v.Field(i))...)
		}
	}
	return all
}

// apart asks that none of these things share memory, with one another or within themselves.
func apart(t *testing.T, what string, things ...any) {
	t.Helper()
	var all []place
	for _, x := range things {
		all = append(all, places(reflect.ValueOf(x))...)
	}
	slices.SortFunc(all, func(a, b place) int { return cmp.Compare(a.start(), b.start()) })
	for i := 1; i < len(all); i++ {
		if all[i-1].start()+all[i-1].size > all[i].start() {
			t.Fatalf("%s: memory is shared", what)
		}
	}
}

// loose is a thing in memory of its own; behind the length of each of its lists lie two things more.
func loose[T any](x T) T {
	v := reflect.New(reflect.TypeOf(x)).Elem()
	v.Set(reflect.ValueOf(x))
	loosen(v)
	return v.Interface().(T)
}

func loosen(v reflect.Value) {
	switch v.Kind() {
	case reflect.String:
		v.SetString(strings.Clone(v.String()))
	case reflect.Slice:
		l := reflect.MakeSlice(v.Type(), v.Len()+2, v.Len()+2)
		reflect.Copy(l, v)
		for i := range v.Len() {
			loosen(l.Index(i))
		}
		for i := v.Len(); i < l.Len(); i++ {
			l.Index(i).Set(behind(v.Type().Elem()))
		}
		v.Set(l.Slice(0, v.Len()))
	case reflect.Struct:
		for i := range v.NumField() {
			loosen(v.Field(i))
		}
	}
}

// behind is a thing of which all texts are "behind", all numbers 99, all lists empty.
func behind(kind reflect.Type) reflect.Value {
	v := reflect.New(kind).Elem()
	switch {
	case v.Kind() == reflect.String:
		v.SetString("behind")
	case v.CanInt():
		v.SetInt(99)
	case v.CanUint():
		v.SetUint(99)
	case v.Kind() == reflect.Struct:
		for i := range v.NumField() {
			v.Field(i).Set(behind(v.Field(i).Type()))
		}
	}
	return v
}

// all tells a thing, what lies behind the lengths of its lists included.
func all(v reflect.Value) string {
	switch v.Kind() {
	case reflect.Slice:
		var b strings.Builder
		fmt.Fprintf(&b, "%d of ", v.Len())
		full := v.Slice(0, v.Cap())
		for i := range full.Len() {
			b.WriteString(all(full.Index(i)) + ",")
		}
		return b.String()
	case reflect.Struct:
		var b strings.Builder
		for i := range v.NumField() {
			b.WriteString(all(v.Field(i)) + "|")
		}
		return b.String()
	}
	return fmt.Sprint(v)
}

// whole is all of several things.
func whole(things ...any) string {
	var b strings.Builder
	for _, x := range things {
		b.WriteString(all(reflect.ValueOf(x)) + "\n")
	}
	return b.String()
}

// rich has lists and texts wherever it may, some of them alike.
func rich(tag int64, points ...api.Point) api.Signed {
	s := signed(tag, 1, points...)
	both := lock.Any(lock.Sig("Pn1;"), lock.All(lock.Sig("Pn1;"), lock.Pre("Hn7;"), lock.Older(0)))
	s.Tx.Outs = []api.Out{{Value: 20, Lock: both}, {Value: 30, Lock: both}}
	for i := range s.Wits {
		s.Wits[i] = api.Witness{Sigs: []api.Term{"n7;", "n7;"}, Pres: []api.Term{"n7;", "t2:ab"}}
	}
	return s
}

// A scene is a watcher that was asked for both transactions of a block, for all that they spend, and for one of them twice.
type scene struct {
	watch  *Watch
	block  api.Block
	ids    []string
	points []api.Point
}

func newScene(t *testing.T) scene {
	t.Helper()
	points := []api.Point{point("a", 0), point("a", 1), point("b", 0)}
	a, b := rich(1, points[0], points[1]), spoilt(rich(2, points[2], points[0]))
	ids := []string{idOf(t, a), idOf(t, a), idOf(t, rich(2))}
	s := scene{New(5), loose(block(a, b, a)), loose(ids), loose(points)}
	for i, id := range s.ids {
		asksTx(t, s.watch, id, i+1)
	}
	for _, p := range s.points {
		asksSpend(t, s.watch, p)
	}
	return s
}

func TestP14_5OnlyRead(t *testing.T) {
	s := newScene(t)
	more, far := loose(block(rich(3, point("c", 0)), spoilt(rich(4)))), loose(point("d", 0))
	things := func() string { return whole(s.block, more, s.ids, s.points, far) }
	was := things()
	w := s.watch
	for name, call := range map[string]func(){
		"Tx": func() { w.Tx(s.ids[0], 9) }, "Tx twice": func() { w.Tx(s.ids[0], 1) }, "Tx with a wrong deep": func() { w.Tx(s.ids[0], 0) }, "Spend": func() { w.Spend(far) }, "Spend twice": func() { w.Spend(s.points[0]) },
		"Block, Back": func() {
			w.Block(s.block)
			w.Block(more)
			w.Block(s.block)
			w.Back(3)
		},
	} {
		call()
		is(t, name, things(), was)
	}
}

// spoilAll changes all that a transaction has in its lists.
func spoilAll(s *api.Signed) {
	for i := range s.Tx.Ins {
		s.Tx.Ins[i] = api.In{Point: api.Point{Tx: "gone", N: 7}, Age: 9}
	}
	for i, o := range s.Tx.Outs {
		spoilKids(o.Lock.Kids)
		s.Tx.Outs[i] = api.Out{Value: -1, Lock: api.Lock{Kind: 77}}
	}
	for i, w := range s.Wits {
		for k := range w.Sigs {
			w.Sigs[k] = "gone"
		}
		for k := range w.Pres {
			w.Pres[k] = "gone"
		}
		s.Wits[i] = api.Witness{}
	}
}

func spoilKids(kids []api.Lock) {
	for i := range kids {
		spoilKids(kids[i].Kids)
		kids[i] = api.Lock{Kind: 77}
	}
}

// TestP14_5NotKept: what is done to a block, and to what was answered, once the call is over, is not seen: neither by asks that were there nor by later ones.
func TestP14_5NotKept(t *testing.T) {
	s := newScene(t)
	w, p := s.watch, s.points
	a, b := loose(s.block.Txs[0]), loose(s.block.Txs[1])
	id := s.ids[0]
	spoil := func(l []api.Notice) {
		for i := range l {
			spoilAll(&l[i].By)
			l[i] = api.Notice{}
		}
	}
	l := w.Block(s.block)
	for i := range s.block.Txs {
		spoilAll(&s.block.Txs[i])
		s.block.Txs[i] = api.Signed{}
	}
	areNotices(t, "Block", l, []api.Notice{stands(id, a, 6), isDeep(id, 6, 1), stands(id, a, 6), spent(p[0], a, 6), spent(p[1], a, 6), spent(p[2], b, 6)})
	spoil(l)
	asksTx(t, w, id, 9)
	l = w.Block(block())
	areNotices(t, "Block", l, []api.Notice{isDeep(id, 6, 2), stands(id, a, 6)})
	spoil(l)
	l, e := w.Back(2)
	is(t, "Back", e, api.OK)
	areNotices(t, "Back", l, []api.Notice{standsBack(id, a, 6), standsBack(id, a, 6), spentBack(p[0], a, 6), spentBack(p[1], a, 6), spentBack(p[2], b, 6), standsBack(id, a, 6)})
}

// unsteady is a text whose bytes the second answer changes.
func unsteady(s string) (string, func()) {
	b := []byte(s)
	return unsafe.String(&b[0], len(b)), func() {
		for i := range b {
			b[i] = '?'
		}
	}
}

// TestP14_5TextsNotKept: the same of the bytes of texts.
func TestP14_5TextsNotKept(t *testing.T) {
	p := point("a", 0)
	a := signed(1, 1, p)
	id := idOf(t, a)
	w := New(0)
	var spoil [3]func()
	var texts [3]string
	for i, s := range []string{id, p.Tx, p.Tx} {
		texts[i], spoil[i] = unsteady(s)
	}
	asksTx(t, w, texts[0], 1)
	asksSpend(t, w, api.Point{Tx: texts[1]})
	spoil[0]()
	spoil[1]()
	is(t, "Tx", w.Tx(id, 1), api.ErrTwice)
	is(t, "Spend", w.Spend(p), api.ErrTwice)
	l := w.Block(block(signed(1, 1, api.Point{Tx: texts[2]})))
	spoil[2]()
	areNotices(t, "Block", l, []api.Notice{stands(id, a, 1), isDeep(id, 1, 1), spent(p, a, 1)})
	asksTx(t, w, id, 2)
	hears(t, w, block(), stands(id, a, 1), isDeep(id, 1, 2))
	loses(t, w, 2, standsBack(id, a, 1), spentBack(p, a, 1), standsBack(id, a, 1))
}

// TestP14_5NewMemory: answers share no memory with what was handed in, with one another, or within themselves.
func TestP14_5NewMemory(t *testing.T) {
	s := newScene(t)
	w := s.watch
	things := []any{s.block, s.ids, s.points}
	for range 3 {
		things = append(things, w.Block(s.block), w.Block(api.Block{}), w.Block(s.block))
		w.Tx(s.ids[0], w.Height())
		things = append(things, w.Block(s.block))
		for _, n := range []int{1, 0, 3} {
			l, e := w.Back(n)
			is(t, "Back", e, api.OK)
			things = append(things, l)
		}
	}
	count := 0
	for _, x := range things[3:] {
		count += len(x.([]api.Notice))
	}
	if count < 40 {
		t.Fatalf("%d notices: too few", count)
	}
	apart(t, "answers", things...)
}
