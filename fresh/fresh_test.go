package fresh_test

import (
	"cmp"
	"reflect"
	"slices"
	"testing"

	"sluiceway/api"
	"sluiceway/fresh"
)

// A place is where something lies in memory.
type place struct {
	from uintptr
	size uintptr
}

// places are those of all texts and lists within a thing, of lists up to what they have room for.
func places(v reflect.Value) []place {
	var all []place
	switch v.Kind() {
	case reflect.String:
		if v.Len() > 0 {
			all = append(all, place{uintptr(v.UnsafePointer()), uintptr(v.Len())})
		}
	case reflect.Slice:
		if v.Cap() > 0 {
			all = append(all, place{v.Pointer(), uintptr(v.Cap()) * v.Type().Elem().Size()})
		}
		for i := range v.Len() {
			all = append(all, places(v.Index(i))...)
		}
	case reflect.Struct:
		for i := range v.NumField() {
			all = append(all, places(v.Field(i))...)
		}
	}
	return all
}

// isAnew asks that answers are as what was given, and share no memory with one another or within themselves; it may share some within itself.
func isAnew[T any](t *testing.T, what string, given T, anew func(T) T) {
	t.Helper()
	a, b := anew(given), anew(given)
	if !reflect.DeepEqual(a, given) || !reflect.DeepEqual(b, given) {
		t.Errorf("%s: %+v and %+v; want %+v", what, a, b, given)
	}
	answered := slices.Concat(places(reflect.ValueOf(a)), places(reflect.ValueOf(b)))
	all := slices.Clone(answered)
	for _, p := range places(reflect.ValueOf(given)) {
		if !slices.Contains(all[len(answered):], p) {
			all = append(all, p)
		}
	}
	slices.SortFunc(all, func(a, b place) int { return cmp.Compare(a.from, b.from) })
	for i := 1; i < len(all); i++ {
		if all[i-1].from+all[i-1].size > all[i].from {
			t.Fatalf("%s: memory is shared", what)
		}
	}
}

var (
	oneLock = api.Lock{Kind: api.LAny, Term: "odd", N: 9, Kids: []api.Lock{{Kind: api.LSig, Term: "Pn1;"}, {Kind: api.LAll, Kids: []api.Lock{{Kind: api.LOlder, N: 6}, {Kind: api.LSig, Term: "Pn1;"}}}}}
	point   = api.Point{Tx: "abc", N: 3}
	oneOut  = api.Out{Value: 7, Lock: oneLock}
	oneWit  = api.Witness{Sigs: []api.Term{"n1;", "n2;"}, Pres: []api.Term{"n1;"}}
	signed  = api.Signed{
		Tx:   api.Tx{Ins: []api.In{{Point: point, Age: 4}, {Point: point}}, Outs: []api.Out{oneOut, oneOut}, After: 5, Tag: 6},
		Wits: []api.Witness{oneWit, oneWit},
	}
)

func TestAnew(t *testing.T) {
	isAnew(t, "Text", "abc", fresh.Text)
	isAnew(t, "Term", "n1;", fresh.Term)
	isAnew(t, "Terms", []api.Term{"n1;", "n1;"}, fresh.Terms)
	isAnew(t, "Lock", oneLock, fresh.Lock)
	isAnew(t, "Locks", []api.Lock{oneLock, oneLock}, fresh.Locks)
	isAnew(t, "Point", point, fresh.Point)
	isAnew(t, "In", signed.Tx.Ins[0], fresh.In)
	isAnew(t, "Out", oneOut, fresh.Out)
	isAnew(t, "Coin", api.Coin{Point: point, Out: oneOut, At: 8}, fresh.Coin)
	isAnew(t, "Tx", signed.Tx, fresh.Tx)
	isAnew(t, "Witness", oneWit, fresh.Witness)
	isAnew(t, "Signed", signed, fresh.Signed)
}

func TestNothing(t *testing.T) {
	if x := fresh.Signed(api.Signed{}); !reflect.DeepEqual(x, api.Signed{}) {
		t.Errorf("%+v", x)
	}
	x := fresh.Signed(api.Signed{Tx: api.Tx{Ins: []api.In{}, Outs: []api.Out{}}, Wits: []api.Witness{}})
	if x.Tx.Ins != nil || x.Tx.Outs != nil || x.Wits != nil {
		t.Errorf("%+v", x)
	}
	if l := fresh.Lock(api.Lock{Kids: make([]api.Lock, 0, 4)}); l.Kids != nil {
		t.Errorf("%+v", l)
	}
	if fresh.Text("") != "" || fresh.Terms(nil) != nil || fresh.Locks(nil) != nil {
		t.Error("something out of nothing")
	}
}
