package wallet

import (
	"cmp"
	"fmt"
	"reflect"
	"slices"
	"strings"
	"testing"
	"unsafe"

	"sluiceway/api"
	"sluiceway/lock"
)

// A place is where something lies in memory. It holds a pointer, not a number: what lies there must outlive the question, lest its memory be given to a later answer.
type place struct {
	from unsafe.Pointer
	size uintptr
}

func (p place) start() uintptr { return uintptr(p.from) }

// places are those of all texts and lists within a thing, of lists up to what they have room for.
func places(v reflect.Value) []place {
	var all []place
	switch v.Kind() {
	case reflect.String:
		if v.Len() > 0 {
			all = append(all, place{v.UnsafePointer(), uintptr(v.Len())})
		}
	case reflect.Slice:
		if v.Cap() > 0 {
			all = append(all, place{v.UnsafePointer(), uintptr(v.Cap()) * v.Type().Elem().Size()})
		}
		for i := range v.Len() {
			all = append(all, places(v.Index(i))...)
		}
	case reflect.Struct:
		for i := range v.NumField() {
			all = append(all, places(v.Field(i))...)
		}
	}
	return all
}

// apart asks that none of these things share memory, with one another or within themselves.
func apart(t *testing.T, what string, things ...any) {
	t.Helper()
	var all []place
	for _, x := range things {
		all = append(all, places(reflect.ValueOf(x))...)
	}
	slices.SortFunc(all, func(a, b place) int { return cmp.Compare(a.start(), b.start()) })
	for i := 1; i < len(all); i++ {
		if all[i-1].start()+all[i-1].size > all[i].start() {
			t.Fatalf("%s: memory is shared", what)
		}
	}
}

// loose is a thing in memory of its own; behind the length of each of its lists lie two things more.
func loose[T any](x T) T {
	v := reflect.New(reflect.TypeOf(x)).Elem()
	v.Set(reflect.ValueOf(x))
	loosen(v)
	return v.Interface().(T)
}

func loosen(v reflect.Value) {
	switch v.Kind() {
	case reflect.String:
		v.SetString(strings.Clone(v.String()))
	case reflect.Slice:
		l := reflect.MakeSlice(v.Type(), v.Len()+2, v.Len()+2)
		reflect.Copy(l, v)
		for i := range v.Len() {
			loosen(l.Index(i))
		}
		for i := v.Len(); i < l.Len(); i++ {
			l.Index(i).Set(behind(v.Type().Elem()))
		}
		v.Set(l.Slice(0, v.Len()))
	case reflect.Struct:
		for i := range v.NumField() {
			loosen(v.Field(i))
		}
	}
}

// behind is a thing of which all texts are "behind", all numbers 99, all lists empty.
func behind(kind reflect.Type) reflect.Value {
	v := reflect.New(kind).Elem()
	switch {
	case v.Kind() == reflect.String:
		v.SetString("behind")
	case v.CanInt():
		v.SetInt(99)
	case v.CanUint():
		v.SetUint(99)
	case v.Kind() == reflect.Struct:
		for i := range v.NumField() {
			v.Field(i).Set(behind(v.Field(i).Type()))
		}
	}
	return v
}

// full tells a thing, what lies behind the lengths of its lists included.
func full(v reflect.Value) string {
	switch v.Kind() {
	case reflect.Slice:
		var b strings.Builder
		fmt.Fprintf(&b, "%d of ", v.Len())
		l := v.Slice(0, v.Cap())
		for i := range l.Len() {
			b.WriteString(full(l.Index(i)) + ",")
		}
		return b.String()
	case reflect.Struct:
		var b strings.Builder
		for i := range v.NumField() {
			b.WriteString(full(v.Field(i)) + "|")
		}
		return b.String()
	}
	return fmt.Sprint(v)
}

// whole is all there is of several things.
func whole(things ...any) string {
	var b strings.Builder
	for _, x := range things {
		b.WriteString(full(reflect.ValueOf(x)) + "\n")
	}
	return b.String()
}

// spoil changes all bytes of a thing's texts, and all that its lists have. These lie in memory of their own, or of one that was to be theirs alone.
func spoil(v reflect.Value) {
	switch v.Kind() {
	case reflect.String:
		if v.Len() > 0 {
			b := unsafe.Slice((*byte)(v.UnsafePointer()), v.Len())
			for i := range b {
				b[i] = '?'
			}
		}
	case reflect.Slice:
		for i := range v.Len() {
			spoil(v.Index(i))
		}
		for i := range v.Len() {
			v.Index(i).SetZero()
		}
	case reflect.Struct:
		for i := range v.NumField() {
			spoil(v.Field(i))
		}
	}
}

func spoilAll(things ...any) {
	for _, x := range things {
		spoil(reflect.ValueOf(x))
	}
}

// rich is a transaction with several Ins and Outs, some of them alike: two coins, and other locks.
func rich(t *testing.T, points ...api.Point) api.Tx {
	t.Helper()
	nested := lock.Any(mine(0), lock.All(mine(0), lock.Pre("Hn7;"), lock.Older(0), lock.After(0)))
	return loose(api.Tx{
		Ins:  spending(append(points, foreign(1), foreign(2))...),
		Outs: []api.Out{{Value: 5000, Lock: mine(0)}, {Value: 20, Lock: nested}, {Value: 20, Lock: nested}, {Value: 6000, Lock: mine(0)}},
		Tag:  5,
	})
}

// askedLock is one to fund, with parts that are alike.
func askedLock() api.Lock {
	return loose(lock.Any(lock.Sig("Pn7;"), lock.All(lock.Sig("Pn7;"), lock.Older(3)), theirs))
}

func TestP17_7OnlyRead(t *testing.T) {
	root := loose(api.Term("n1;"))
	w, e := New(root)
	is(t, "New", e, api.OK)
	gives(t, w, mine(0))
	a := rich(t)
	b := rich(t, point(t, a, 0))
	wrong := loose(a)
	wrong.Outs[3].Value = api.MaxCoin
	l, wrongLock := askedLock(), loose(lock.Any(mine(0), theirs, lock.Any()))
	was := whole(root, a, b, wrong, l, wrongLock)
	for _, step := range []struct {
		what string
		call func() api.Errno
		want api.Errno
	}{
		{"Take", func() api.Errno { return w.Take(a, 1) }, api.OK},
		{"Take again", func() api.Errno { return w.Take(a, 1) }, api.ErrTx},
		{"Take of a wrong one", func() api.Errno { return w.Take(wrong, 1) }, api.ErrTx},
		{"Take of a spend", func() api.Errno { return w.Take(b, 2) }, api.OK},
		{"Back of a wrong one", func() api.Errno { return w.Back(wrong) }, api.ErrTx},
		{"Back", func() api.Errno { return w.Back(b) }, api.OK},
		{"Back again", func() api.Errno { return w.Back(b) }, api.ErrTx},
		{"Fund", func() api.Errno { _, e := w.Fund(l, 7000, 100); return e }, api.OK},
		{"Fund of too much", func() api.Errno { _, e := w.Fund(l, 7000, 100); return e }, api.ErrFunds},
		{"Fund of a wrong one", func() api.Errno { _, e := w.Fund(wrongLock, 7000, 100); return e }, api.ErrLock},
		{"Free", func() api.Errno { return w.Free(b) }, api.OK},
		{"Free of a wrong one", func() api.Errno { return w.Free(wrong) }, api.ErrTx},
	} {
		is(t, step.what, step.call(), step.want)
		is(t, "what was handed in to "+step.what, whole(root, a, b, wrong, l, wrongLock), was)
	}
}

// TestP17_7NotKept: what is done to what was handed in, once the call is over, is not seen.
func TestP17_7NotKept(t *testing.T) {
	root := loose(api.Term("n1;"))
	w, e := New(root)
	is(t, "New", e, api.OK)
	spoilAll(root)
	gives(t, w, mine(0))
	a := rich(t)
	loosely(a, func(x api.Tx) { takes(t, w, x, 1) })
	has(t, w, coin(t, a, 3, 1), coin(t, a, 0, 1))
	loosely(a, func(x api.Tx) { takesBack(t, w, x) })
	loosely(a, func(x api.Tx) { takes(t, w, x, 1) })
	has(t, w, coin(t, a, 3, 1), coin(t, a, 0, 1))
	b := rich(t, point(t, a, 0))
	loosely(b, func(x api.Tx) { takes(t, w, x, 2) })
	is(t, "which id is the lesser", idOf(t, a) < idOf(t, b), true)
	has(t, w, coin(t, a, 3, 1), coin(t, b, 3, 2), coin(t, b, 0, 2))
	loosely(b, func(x api.Tx) { takesBack(t, w, x) })
	has(t, w, coin(t, a, 3, 1), coin(t, a, 0, 1))
	refusesTake(t, w, a)
	refusesBack(t, w, b)
	l := askedLock()
	s, e := w.Fund(l, 7000, 100)
	is(t, "Fund", e, api.OK)
	was := all(w)
	told := tell(s)
	spoilAll(l)
	is(t, "what was answered", tell(s), told)
	is(t, "the wallet", all(w), was)
	loosely(b, func(x api.Tx) { frees(t, w, x) })
	balances(t, w, 11000, 5000)
}

// loosely calls with a transaction in memory of its own, that is spoilt behind the call.
func loosely(x api.Tx, call func(api.Tx)) {
	own := loose(x)
	call(own)
	spoilAll(own)
}

// TestP17_7NewMemory: answers share no memory with what was handed in, with one another, or within themselves.
func TestP17_7NewMemory(t *testing.T) {
	root := loose(api.Term("n1;"))
	w, e := New(root)
	is(t, "New", e, api.OK)
	things := []any{root}
	address := func() {
		l, e := w.Address()
		is(t, "Address", e, api.OK)
		things = append(things, l)
	}
	address()
	address()
	a, l := rich(t), askedLock()
	things = append(things, a, l)
	takes(t, w, a, 1)
	for range 3 {
		things = append(things, w.Coins(), w.Coins())
		s, e := w.Fund(l, 8000, 100)
		is(t, "Fund", e, api.OK)
		is(t, "Outs", len(s.Tx.Outs), 2)
		is(t, "Ins", len(s.Tx.Ins), 2)
		things = append(things, s, w.Coins())
		frees(t, w, s.Tx)
		address()
	}
	s := funded(t, w, 10500, 0)
	is(t, "Outs", len(s.Tx.Outs), 1)
	b := loose(s.Tx)
	takes(t, w, b, 2)
	takesBack(t, w, b)
	things = append(things, s, b, w.Coins())
	apart(t, "answers", things...)
}

// TestP17_7Answers: what is done to answers is not seen in the wallet.
func TestP17_7Answers(t *testing.T) {
	w := opened(t, 1)
	a := rich(t)
	takes(t, w, a, 1)
	for n := 1; n < 5; n++ {
		l, e := w.Address()
		is(t, "Address", e, api.OK)
		is(t, "Address", tell(l), tell(mine(2*n-1)))
		was := all(w)
		spoilAll(l)
		is(t, "the wallet", all(w), was)
		s := funded(t, w, 8000, 100)
		was = all(w)
		x := s.Tx
		x.Ins, x.Outs = loose(x.Ins), loose(x.Outs)
		spoilAll(s)
		spoilAll(w.Coins())
		is(t, "the wallet", all(w), was)
		balances(t, w, 11000, 0)
		frees(t, w, x)
		has(t, w, coin(t, a, 3, 1), coin(t, a, 0, 1))
		takes(t, w, api.Tx{Outs: []api.Out{{Value: 1, Lock: mine(2*n - 1)}}, Tag: int64(n)}, n)
		takesBack(t, w, api.Tx{Outs: []api.Out{{Value: 1, Lock: mine(2*n - 1)}}, Tag: int64(n)})
	}
}

// TestP17_7NothingChanges: behind a call that answers an error a wallet goes on as one that never heard it.
func TestP17_7NothingChanges(t *testing.T) {
	w, l := made(t, 700, 10000, 20)
	twin, _ := made(t, 700, 10000, 20)
	spent := api.Tx{Ins: spending(point(t, l[1], 0)), Outs: []api.Out{{Value: 9000, Lock: mine(1)}}}
	for range 3 {
		for _, x := range wrongTxs(point(t, l[0], 0)) {
			refusesTake(t, w, x)
			refusesBack(t, w, x)
			refusesFree(t, w, x)
		}
		refusesTake(t, w, l[0])
		refusesBack(t, w, spent)
		refusesFund(t, w, theirs, 10721, 0, api.ErrFunds)
		refusesFund(t, w, theirs, 0, 0, api.ErrMoney)
		refusesFund(t, w, lock.All(), 1, 0, api.ErrLock)
		is(t, "the wallet", all(w), all(twin))
	}
	for _, x := range []*Wallet{w, twin} {
		gives(t, x, mine(3))
		funded(t, x, 5000, 1000)
		gives(t, x, mine(5))
		takes(t, x, spent, 8)
		balances(t, x, 9720, 9720)
		takesBack(t, x, spent)
		balances(t, x, 10720, 10720)
	}
	is(t, "the wallet", all(w), all(twin))
}
