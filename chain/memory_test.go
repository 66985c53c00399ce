package chain

import (
	"cmp"
	"fmt"
	"reflect"
	"slices"
	"strings"
	"testing"
	"unsafe"

	"sluiceway/api"
	"sluiceway/lock"
)

// A place is where something lies in memory. It holds a pointer, not a number: what lies there must outlive the question, lest its memory be given to a later answer.
type place struct {
	from unsafe.Pointer
	size uintptr
}

func (p place) start() uintptr { return uintptr(p.from) }

// places are those of all texts and lists within a thing, of lists up to what they have room for.
func places(v reflect.Value) []place {
	var all []place
	switch v.Kind() {
	case reflect.String:
		if v.Len() > 0 {
			all = append(all, place{v.UnsafePointer(), uintptr(v.Len())})
		}
	case reflect.Slice:
		if v.Cap() > 0 {
			all = append(all, place{v.UnsafePointer(), uintptr(v.Cap()) * v.Type().Elem().Size()})
		}
		for i := range v.Len() {
			all = append(all, places(v.Index(i))...)
		}
	case reflect.Struct:
		for i := range v.NumField() {
			all = append(all, places(v.Field(i))...)
		}
	}
	return all
}

// apart asks that none of these things share memory, with one another or within themselves.
func apart(t *testing.T, what string, things ...any) {
	t.Helper()
	var all []place
	for _, x := range things {
		all = append(all, places(reflect.ValueOf(x))...)
	}
	slices.SortFunc(all, func(a, b place) int { return cmp.Compare(a.start(), b.start()) })
	for i := 1; i < len(all); i++ {
		if all[i-1].start()+all[i-1].size > all[i].start() {
			t.Fatalf("%s: memory is shared", what)
		}
	}
}

// loose is a thing in memory of its own; behind the length of each of its lists lie two things more.
func loose[T any](x T) T {
	v := reflect.New(reflect.TypeOf(x)).Elem()
	v.Set(reflect.ValueOf(x))
	loosen(v)
	return v.Interface().(T)
}

func loosen(v reflect.Value) {
	switch v.Kind() {
	case reflect.String:
		v.SetString(strings.Clone(v.String()))
	case reflect.Slice:
		l := reflect.MakeSlice(v.Type(), v.Len()+2, v.Len()+2)
		reflect.Copy(l, v)
		for i := range v.Len() {
			loosen(l.Index(i))
		}
		for i := v.Len(); i < l.Len(); i++ {
			l.Index(i).Set(behind(v.Type().Elem()))
		}
		v.Set(l.Slice(0, v.Len()))
	case reflect.Struct:
		for i := range v.NumField() {
			loosen(v.Field(i))
		}
	}
}

// behind is a thing of which all texts are "behind", all numbers 99, all lists empty.
func behind(kind reflect.Type) reflect.Value {
	v := reflect.New(kind).Elem()
	switch {
	case v.Kind() == reflect.String:
		v.SetString("behind")
	case v.CanInt():
		v.SetInt(99)
	case v.CanUint():
		v.SetUint(99)
	case v.Kind() == reflect.Struct:
		for i := range v.NumField() {
			v.Field(i).Set(behind(v.Field(i).Type()))
		}
	}
	return v
}

// all tells a thing, what lies behind the lengths of its lists included.
func all(v reflect.Value) string {
	switch v.Kind() {
	case reflect.Slice:
		var b strings.Builder
		fmt.Fprintf(&b, "%d of ", v.Len())
		full := v.Slice(0, v.Cap())
		for i := range full.Len() {
			b.WriteString(all(full.Index(i)) + ",")
		}
		return b.String()
	case reflect.Struct:
		var b strings.Builder
		for i := range v.NumField() {
			b.WriteString(all(v.Field(i)) + "|")
		}
		return b.String()
	}
	return fmt.Sprint(v)
}

// whole is all of several things.
func whole(things ...any) string {
	var b strings.Builder
	for _, x := range things {
		b.WriteString(all(reflect.ValueOf(x)) + "\n")
	}
	return b.String()
}

// manyLocks are Outs under locks of all kinds, some of them alike.
func manyLocks() []api.Out {
	both := lock.Any(keyLock(1), lock.All(keyLock(1), lock.Pre("Hn7;"), lock.Older(0), lock.After(0)))
	return []api.Out{{Value: 20, Lock: both}, {Value: 30, Lock: both}, out(40, 1), out(40, 1)}
}

// rich is a transaction with two Ins of one ledger, and witnesses with several terms each, some of them alike.
func rich(t *testing.T, p []api.Point) api.Signed {
	t.Helper()
	s := signed(t, api.Tx{Ins: ins(p[0], p[2]), Outs: manyLocks()[:2], Tag: 5}, 1, 1, 2)
	for i := range s.Wits {
		s.Wits[i].Pres = []api.Term{"n7;", "n7;", "t2:ab"}
	}
	return s
}

func TestP13_6OnlyRead(t *testing.T) {
	first := loose(manyLocks())
	was := whole(first)
	c, e := New(first)
	is(t, "New", e, api.OK)
	is(t, "New's Outs", whole(first), was)
	p := pointsOf(t, api.Tx{Outs: first})
	good := loose(rich(t, p))
	next := loose(spend(t, point(t, good, 0), 1, out(7, 1)))
	spoilt := loose(good)
	spoilt.Tx.Outs[0].Value = 10000
	b, bad := loose(block(good, next)), loose(block(good, next, spoilt))
	id, q := strings.Clone(p[1].Tx), loose(p[1])
	was = whole(good, next, spoilt, b, bad, id, q)
	for what, call := range map[string]func(){
		"Check": func() { is(t, "Check", c.Check(good, 1), api.OK) }, "Check of a wrong one": func() { is(t, "Check", c.Check(spoilt, 1), api.ErrShut) },
		"Tx": func() { c.Tx(id) }, "Coin": func() { c.Coin(q) }, "a wrong block": func() { is(t, "Mine", c.Mine(bad), api.ErrSpent) },
		"Mine": func() {
			d := c.Copy()
			is(t, "Mine", d.Mine(b), api.OK)
			d.Coins()
			d.Back(1)
		},
	} {
		call()
		is(t, what, whole(good, next, spoilt, b, bad, id, q), was)
	}
}

// TestP13_6NotKept: what is done to what was handed in, once the call is over, is not seen.
func TestP13_6NotKept(t *testing.T) {
	first := loose(manyLocks())
	p := pointsOf(t, api.Tx{Outs: first})
	b := loose(block(rich(t, p)))
	c, e := New(first)
	is(t, "New", e, api.OK)
	start := tell(c)
	spoilOuts(first)
	is(t, "the ledger", tell(c), start)
	is(t, "Mine", c.Mine(b), api.OK)
	was := tell(c)
	spoil(&b.Txs[0])
	b.Txs[0] = api.Signed{}
	is(t, "the ledger", tell(c), was)
	back(t, c, 1)
	is(t, "the ledger", tell(c), start)
}

// spoil changes all that a transaction has in its lists.
func spoil(s *api.Signed) {
	spoilOuts(s.Tx.Outs)
	for i := range s.Tx.Ins {
		s.Tx.Ins[i] = api.In{Point: api.Point{Tx: "gone", N: 7}, Age: 9}
	}
	for i, w := range s.Wits {
		for k := range w.Sigs {
			w.Sigs[k] = "gone"
		}
		for k := range w.Pres {
			w.Pres[k] = "gone"
		}
		s.Wits[i] = api.Witness{}
	}
}

func spoilOuts(outs []api.Out) {
	for i := range outs {
		spoilKids(outs[i].Lock.Kids)
		outs[i] = api.Out{Value: -1, Lock: api.Lock{Kind: 77}}
	}
}

func spoilKids(kids []api.Lock) {
	for i := range kids {
		spoilKids(kids[i].Kids)
		kids[i] = api.Lock{Kind: 77}
	}
}

// answers are all that a ledger with these tells, by calls of each kind.
func answers(c *Chain, ids []string, points []api.Point) []any {
	l := []any{c.Coins()}
	for at := range c.Height() + 1 {
		b, _ := c.Block(at)
		l = append(l, b)
	}
	for _, id := range ids {
		s, _, _ := c.Tx(id)
		l = append(l, s)
	}
	for _, p := range points {
		coin, _ := c.Coin(p)
		l = append(l, coin)
	}
	return l
}

// TestP13_6NewMemory: answers share no memory with what was handed in, with what another call or a copy answers, or within themselves.
func TestP13_6NewMemory(t *testing.T) {
	first := loose(manyLocks())
	c, e := New(first)
	is(t, "New", e, api.OK)
	p := pointsOf(t, api.Tx{Outs: first})
	a := rich(t, p)
	later := spend(t, point(t, a, 1), 1, manyLocks()[0])
	b, d := loose(block(a, later)), loose(block(spend(t, p[3], 1, out(3, 1), out(3, 1))))
	is(t, "Mine", c.Mine(b), api.OK)
	is(t, "Mine", c.Mine(d), api.OK)
	ids := loose([]string{p[0].Tx, idOf(t, a.Tx), idOf(t, later.Tx), idOf(t, d.Txs[0].Tx)})
	points := loose([]api.Point{p[1], point(t, a, 0), point(t, later, 0), point(t, d.Txs[0], 1)})
	twin := c.Copy()
	things := []any{first, b, d, ids, points}
	for _, x := range []*Chain{c, c, twin, c.Copy()} {
		things = append(things, answers(x, ids, points)...)
	}
	apart(t, "answers", things...)
	back(t, c, 2)
	things = append(things, answers(c, ids, p)...)
	things = append(things, answers(c, ids, p)...)
	apart(t, "answers behind Back", append(things, p)...)
}

// TestP13_6Answers: what is done to an answer is not seen in the ledger.
func TestP13_6Answers(t *testing.T) {
	c, p := started(t, manyLocks()...)
	a := rich(t, p)
	mine(t, c, a)
	was := tell(c)
	for range 2 {
		for _, coin := range c.Coins() {
			spoilKids(coin.Out.Lock.Kids)
			held, _ := c.Coin(coin.Point)
			spoilKids(held.Out.Lock.Kids)
		}
		clear(c.Coins())
		for at := range 2 {
			b, _ := c.Block(at)
			for i := range b.Txs {
				spoil(&b.Txs[i])
			}
			clear(b.Txs)
		}
		s, _, _ := c.Tx(idOf(t, a.Tx))
		spoil(&s)
		is(t, "the ledger", tell(c), was)
	}
	back(t, c, 1)
	mine(t, c, a)
	is(t, "the ledger", tell(c), was)
}
