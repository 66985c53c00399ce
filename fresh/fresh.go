// Package fresh makes things anew: what it answers shares no memory with what it was given, nor within itself. Lists without anything become nil.
package fresh

import (
	"strings"

	"sluiceway/api"
)

// No lock within the document's bound has more parts nested in one another, nor more in all: a part has some 50 bytes, and there are 2^31 - 1. One that stands within itself has no end of them.
const (
	maxNested = 1 << 16
	maxParts  = 1 << 26
)

func Text(s string) string { return strings.Clone(s) }

func Term(t api.Term) api.Term { return api.Term(strings.Clone(string(t))) }

func Terms(l []api.Term) []api.Term { return list(l, Term) }

// Lock ends for all locks: one beyond the bound gets one kid of no kind in place of its own, and so stays no right one.
func Lock(l api.Lock) api.Lock {
	parts := maxParts
	if !ends(l, maxNested, &parts) {
		return api.Lock{Kind: l.Kind, Term: Term(l.Term), N: l.N, Kids: make([]api.Lock, 1)}
	}
	return endingLock(l)
}

func Locks(l []api.Lock) []api.Lock { return list(l, Lock) }

func Point(p api.Point) api.Point { return api.Point{Tx: Text(p.Tx), N: p.N} }

func In(i api.In) api.In { return api.In{Point: Point(i.Point), Age: i.Age} }

func Out(o api.Out) api.Out { return api.Out{Value: o.Value, Lock: Lock(o.Lock)} }

func Coin(c api.Coin) api.Coin { return api.Coin{Point: Point(c.Point), Out: Out(c.Out), At: c.At} }

func Tx(t api.Tx) api.Tx {
	return api.Tx{Ins: list(t.Ins, In), Outs: list(t.Outs, Out), After: t.After, Tag: t.Tag}
}

func Witness(w api.Witness) api.Witness {
	return api.Witness{Sigs: Terms(w.Sigs), Pres: Terms(w.Pres)}
}

func Signed(s api.Signed) api.Signed { return api.Signed{Tx: Tx(s.Tx), Wits: list(s.Wits, Witness)} }

// ends tells whether a lock has at most so many parts nested in one another, and in all.
func ends(l api.Lock, nested int, parts *int) bool {
	*parts--
	if nested == 0 || *parts < 0 {
		return false
	}
	for _, k := range l.Kids {
		if !ends(k, nested-1, parts) {
			return false
		}
	}
	return true
}

func endingLock(l api.Lock) api.Lock {
	return api.Lock{Kind: l.Kind, Term: Term(l.Term), N: l.N, Kids: list(l.Kids, endingLock)}
}

func list[T any](l []T, anew func(T) T) []T {
	if len(l) == 0 {
		return nil
	}
	out := make([]T, len(l))
	for i, x := range l {
		out[i] = anew(x)
	}
	return out
}
