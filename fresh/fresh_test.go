package fresh_test

import (
	"cmp"
	"reflect"
	"slices"
	"testing"
	"unsafe"

	"sluiceway/api"
	"sluiceway/fresh"
)

// A place is where something lies in memory. It holds a pointer, not a number: what lies there must outlive the question, lest its memory be given to a later answer.
type place struct {
	from unsafe.Pointer
	size uintptr
}

func (p place) start() uintptr { return uintptr(p.from) }

// places are those of all texts and lists within a thing, of lists up to what they have room for.
func places(v reflect.Value) []place {
	var all []place
	switch v.Kind() {
	case reflect.String:
		if v.Len() > 0 {
			all = append(all, place{v.UnsafePointer(), uintptr(v.Len())})
		}
	case reflect.Slice:
		if v.Cap() > 0 {
			all = append(all, place{v.UnsafePointer(), uintptr(v.Cap()) * v.Type().Elem().Size()})
		}
		for i := range v.Len() {
			all = append(all, places(v.Index(i))...)
		}
	case reflect.Struct:
		for i := range v.NumField() {
			all = append(all, places(v.Field(i))...)
		}
	}
	return all
}

// isAnew asks that answers are as what was given, and share no memory with one another or within themselves; it may share some within itself.
func isAnew[T any](t *testing.T, what string, given T, anew func(T) T) {
	t.Helper()
	a, b := anew(given), anew(given)
	if !reflect.DeepEqual(a, given) || !reflect.DeepEqual(b, given) {
		t.Errorf("%s: %+v and %+v; want %+v", what, a, b, given)
	}
	answered := slices.Concat(places(reflect.ValueOf(a)), places(reflect.ValueOf(b)))
	all := slices.Clone(answered)
	for _, p := range places(reflect.ValueOf(given)) {
		if !slices.Contains(all[len(answered):], p) {
			all = append(all, p)
		}
	}
	slices.SortFunc(all, func(a, b place) int { return cmp.Compare(a.start(), b.start()) })
	for i := 1; i < len(all); i++ {
		if all[i-1].start()+all[i-1].size > all[i].start() {
			t.Fatalf("%s: memory is shared", what)
		}
	}
}

var (
	oneLock = api.Lock{Kind: api.LAny, Term: "odd", N: 9, Kids: []api.Lock{{Kind: api.LSig, Term: "Pn1;"}, {Kind: api.LAll, Kids: []api.Lock{{Kind: api.LOlder, N: 6}, {Kind: api.LSig, Term: "Pn1;"}}}}}
	point   = api.Point{Tx: "abc", N: 3}
	oneOut  = api.Out{Value: 7, Lock: oneLock}
	oneWit  = api.Witness{Sigs: []api.Term{"n1;", "n2;"}, Pres: []api.Term{"n1;"}}
	signed  = api.Signed{
		Tx:   api.Tx{Ins: []api.In{{Point: point, Age: 4}, {Point: point}}, Outs: []api.Out{oneOut, oneOut}, After: 5, Tag: 6},
		Wits: []api.Witness{oneWit, oneWit},
	}
)

func TestAnew(t *testing.T) {
	isAnew(t, "Text", "abc", fresh.Text)
	isAnew(t, "Term", "n1;", fresh.Term)
	isAnew(t, "Terms", []api.Term{"n1;", "n1;"}, fresh.Terms)
	isAnew(t, "Lock", oneLock, fresh.Lock)
	isAnew(t, "Locks", []api.Lock{oneLock, oneLock}, fresh.Locks)
	isAnew(t, "Point", point, fresh.Point)
	isAnew(t, "In", signed.Tx.Ins[0], fresh.In)
	isAnew(t, "Out", oneOut, fresh.Out)
	isAnew(t, "Coin", api.Coin{Point: point, Out: oneOut, At: 8}, fresh.Coin)
	isAnew(t, "Tx", signed.Tx, fresh.Tx)
	isAnew(t, "Witness", oneWit, fresh.Witness)
	isAnew(t, "Signed", signed, fresh.Signed)
}

func TestNothing(t *testing.T) {
	if x := fresh.Signed(api.Signed{}); !reflect.DeepEqual(x, api.Signed{}) {
		t.Errorf("%+v", x)
	}
	x := fresh.Signed(api.Signed{Tx: api.Tx{Ins: []api.In{}, Outs: []api.Out{}}, Wits: []api.Witness{}})
	if x.Tx.Ins != nil || x.Tx.Outs != nil || x.Wits != nil {
		t.Errorf("%+v", x)
	}
	if l := fresh.Lock(api.Lock{Kids: make([]api.Lock, 0, 4)}); l.Kids != nil {
		t.Errorf("%+v", l)
	}
	if fresh.Text("") != "" || fresh.Terms(nil) != nil || fresh.Locks(nil) != nil {
		t.Error("something out of nothing")
	}
}

// deepLock has so many parts, one within the other.
func deepLock(parts int) api.Lock {
	l := api.Lock{Kind: api.LAfter, N: 5}
	for range parts - 1 {
		l = api.Lock{Kind: api.LAny, Kids: []api.Lock{l}}
	}
	return l
}

// withinItself has so many kids behind some others, each of which has all of these as kids.
func withinItself(others, kids int) api.Lock {
	l := make([]api.Lock, others+kids)
	for i := range l {
		l[i] = api.Lock{Kind: api.LAny, Term: "odd", N: 9}
		if i >= others {
			l[i].Kids = l
		}
	}
	return l[others]
}

// doubled has 2^n parts in all; each list stands in two others.
func doubled(n int) api.Lock {
	l := api.Lock{Kind: api.LAny}
	for range n {
		l = api.Lock{Kind: api.LAny, Kids: []api.Lock{l, l}}
	}
	return l
}

// TestDeepLock: as deep as may be, a lock is told whole.
func TestDeepLock(t *testing.T) {
	l := fresh.Lock(deepLock(1 << 16))
	for range 1<<16 - 1 {
		if l.Kind != api.LAny || l.Term != "" || l.N != 0 || len(l.Kids) != 1 {
			t.Fatalf("%d, %q, %d, %d kids", l.Kind, l.Term, l.N, len(l.Kids))
		}
		l = l.Kids[0]
	}
	if l.Kind != api.LAfter || l.N != 5 || l.Kids != nil {
		t.Errorf("%+v", l)
	}
}

// TestEndless: a lock without an end, or with more parts than may be given, is told in a way that ends, with what it has besides its kids.
func TestEndless(t *testing.T) {
	for name, l := range map[string]api.Lock{
		"itself": withinItself(0, 1), "two": withinItself(0, 2), "eight": withinItself(0, 8), "many": withinItself(0, 1000), "the last of many": withinItself(100000, 1), "very deep": deepLock(1<<16 + 1), "doubled": doubled(60),
	} {
		want := api.Lock{Kind: l.Kind, Term: l.Term, N: l.N, Kids: []api.Lock{{}}}
		above := api.Lock{Kind: api.LAll, Kids: []api.Lock{oneLock, l}}
		for _, x := range []api.Lock{fresh.Lock(l), fresh.Locks([]api.Lock{oneLock, l})[1], fresh.Out(api.Out{Lock: l}).Lock} {
			if !reflect.DeepEqual(x, want) {
				t.Errorf("%s: %d, %q, %d, %d kids", name, x.Kind, x.Term, x.N, len(x.Kids))
			}
		}
		if x := fresh.Lock(above); !reflect.DeepEqual(x, api.Lock{Kind: api.LAll, Kids: []api.Lock{{}}}) {
			t.Errorf("%s in another one: %d, %d kids", name, x.Kind, len(x.Kids))
		}
	}
}
