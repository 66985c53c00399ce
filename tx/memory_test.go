package tx

import (
	"cmp"
	"math/rand"
	"slices"
	"strings"
	"testing"
	"unsafe"

	"sluiceway/api"
	"sluiceway/lock"
)

// A place is where something lies in memory. It holds a pointer, not a number: what lies there must outlive the question, lest its memory be given to a later answer.
type place struct {
	from unsafe.Pointer
	size uintptr
}

func (p place) start() uintptr { return uintptr(p.from) }

// placesOfList is that of a list, up to what it has room for; placesOfText that of a text.
func placesOfList[T any](l []T) []place {
	if cap(l) == 0 {
		return nil
	}
	first := unsafe.SliceData(l)
	return []place{{unsafe.Pointer(first), uintptr(cap(l)) * unsafe.Sizeof(*first)}}
}

func placesOfText[T ~string](s T) []place {
	if len(s) == 0 {
		return nil
	}
	return []place{{unsafe.Pointer(unsafe.StringData(string(s))), uintptr(len(s))}}
}

func placesOfLock(l api.Lock) []place {
	all := slices.Concat(placesOfText(l.Term), placesOfList(l.Kids))
	for _, k := range l.Kids {
		all = append(all, placesOfLock(k)...)
	}
	return all
}

func placesOfTerms(l []api.Term) []place {
	all := placesOfList(l)
	for _, x := range l {
		all = append(all, placesOfText(x)...)
	}
	return all
}

// places are all places of a transaction, and of its witnesses.
func places(x api.Signed) []place {
	all := slices.Concat(placesOfList(x.Tx.Ins), placesOfList(x.Tx.Outs), placesOfList(x.Wits))
	for _, in := range x.Tx.Ins {
		all = append(all, placesOfText(in.Point.Tx)...)
	}
	for _, o := range x.Tx.Outs {
		all = append(all, placesOfLock(o.Lock)...)
	}
	for _, w := range x.Wits {
		all = slices.Concat(all, placesOfTerms(w.Sigs), placesOfTerms(w.Pres))
	}
	return all
}

// apart asks that no two of these places share a byte.
func apart(t *testing.T, what string, all []place) {
	t.Helper()
	slices.SortFunc(all, func(a, b place) int { return cmp.Compare(a.start(), b.start()) })
	for i := 1; i < len(all); i++ {
		if all[i-1].start()+all[i-1].size > all[i].start() {
			t.Fatalf("%s: memory is shared", what)
		}
	}
}

// loose is a list in memory of its own, each thing made anew, with two more behind its length.
func loose[T any](l []T, behind T, anew func(T) T) []T {
	out := make([]T, 0, len(l)+2)
	for _, x := range l {
		out = append(out, anew(x))
	}
	return append(out, behind, behind)[:len(l)]
}

// What lies behind the lists' lengths.
var (
	termBehind = api.Term("behind")
	lockBehind = api.Lock{Kind: 99, Term: "behind", N: 99}
	inBehind   = api.In{Point: api.Point{Tx: "behind", N: 99}, Age: 99}
	outBehind  = api.Out{Value: 99, Lock: lockBehind}
	witBehind  = api.Witness{Sigs: []api.Term{"behind"}}
)

func looseTerm(t api.Term) api.Term { return api.Term(strings.Clone(string(t))) }

func looseLock(l api.Lock) api.Lock {
	return api.Lock{Kind: l.Kind, Term: looseTerm(l.Term), N: l.N, Kids: loose(l.Kids, lockBehind, looseLock)}
}

func looseIn(in api.In) api.In {
	in.Point.Tx = strings.Clone(in.Point.Tx)
	return in
}

func looseOut(o api.Out) api.Out { return api.Out{Value: o.Value, Lock: looseLock(o.Lock)} }

func looseWit(w api.Witness) api.Witness {
	return api.Witness{Sigs: loose(w.Sigs, termBehind, looseTerm), Pres: loose(w.Pres, termBehind, looseTerm)}
}

func looseSigned(x api.Signed) api.Signed {
	t := api.Tx{Ins: loose(x.Tx.Ins, inBehind, looseIn), Outs: loose(x.Tx.Outs, outBehind, looseOut), After: x.Tx.After, Tag: x.Tx.Tag}
	return api.Signed{Tx: t, Wits: loose(x.Wits, witBehind, looseWit)}
}

// kept tells whether what lies behind a list's length is what was put there.
func kept[T any](l []T, behind T, alike func(T, T) bool) bool {
	return slices.EqualFunc(l[len(l):len(l)+2], []T{behind, behind}, alike)
}

func keptLock(l api.Lock) bool {
	return kept(l.Kids, lockBehind, sameLock) && !slices.ContainsFunc(l.Kids, func(k api.Lock) bool { return !keptLock(k) })
}

func keptSigned(x api.Signed) bool {
	ok := kept(x.Tx.Ins, inBehind, func(a, b api.In) bool { return a == b }) && kept(x.Tx.Outs, outBehind, sameOut) && kept(x.Wits, witBehind, sameWit)
	for _, o := range x.Tx.Outs {
		ok = ok && keptLock(o.Lock)
	}
	for _, w := range x.Wits {
		ok = ok && kept(w.Sigs, termBehind, sameTerm) && kept(w.Pres, termBehind, sameTerm)
	}
	return ok
}

func sameTerm(a, b api.Term) bool { return a == b }

func TestP12_7OnlyRead(t *testing.T) {
	for seed := range int64(2000) {
		draw := rand.New(rand.NewSource(seed))
		was := drawnSigned(draw, 1+draw.Intn(6))
		if draw.Intn(3) == 0 {
			was = spoiltSigned(draw, was)
		}
		x, l := looseSigned(was), looseLock(drawnLock(draw, 2))
		lockWas := looseLock(l)
		for what, call := range map[string]func(){
			"Right": func() { Right(x.Tx) }, "Whole": func() { Whole(x) }, "Write": func() { Write(x.Tx) }, "WriteSigned": func() { WriteSigned(x) }, "ID": func() { ID(x.Tx) }, "Msg": func() { Msg(x.Tx) },
			"Sign": func() { Sign(x.Tx, "n1;") }, "Opens": func() { Opens(x, draw.Intn(3), l) }, "Total": func() { Total(x.Tx) },
		} {
			call()
			if !sameSigned(x, was) || !keptSigned(x) || !sameLock(l, lockWas) || !keptLock(l) {
				t.Fatalf("%s has changed %s", what, short(was))
			}
		}
	}
}

func TestP12_7NewMemory(t *testing.T) {
	for seed := range int64(2000) {
		draw := rand.New(rand.NewSource(seed))
		x := looseSigned(drawnSigned(draw, 1+draw.Intn(6)))
		text, bareText, key := writtenSigned(x), written(x.Tx), strings.Clone("n12;")
		all := slices.Concat(places(x), placesOfText(text), placesOfText(bareText), placesOfText(key))
		if len(x.Wits) == 0 {
			text = strings.Clone(bareText)
		}
		for range 2 {
			a, e := Read(bareText)
			b, e2 := ReadSigned(text)
			s, e3 := Write(x.Tx)
			w, e4 := WriteSigned(x)
			id, e5 := ID(x.Tx)
			msg, e6 := Msg(x.Tx)
			sig, e7 := Sign(x.Tx, api.Term(key))
			if e+e2+e3+e4+e5+e6+e7 != api.OK {
				t.Fatalf("%s: an error", text)
			}
			all = slices.Concat(all, places(api.Signed{Tx: a}), places(b), placesOfText(s), placesOfText(w), placesOfText(id), placesOfText(msg), placesOfText(sig))
		}
		apart(t, text, all)
	}
}

// TestP12_7LikeParts: parts that are alike within one answer lie apart, too.
func TestP12_7LikeParts(t *testing.T) {
	x := plain()
	x.Ins = []api.In{{Point: api.Point{Tx: id("1"), N: 1}}, {Point: api.Point{Tx: id("1"), N: 2}}, {Point: api.Point{Tx: id("1"), N: 3}}}
	x.Outs = slices.Repeat([]api.Out{{Value: 1, Lock: lock.Any(lock.Sig("Pn1;"), lock.All(lock.Sig("Pn1;")))}}, 3)
	w := api.Witness{Sigs: []api.Term{"n1;", "n1;"}, Pres: []api.Term{"n1;", "n1;"}}
	s := api.Signed{Tx: x, Wits: []api.Witness{w, w, w}}
	text := writtenSigned(s)
	back, e := ReadSigned(text)
	again, e2 := ReadSigned(text)
	if e != api.OK || e2 != api.OK || !sameSigned(back, s) {
		t.Fatalf("%s, %d, %d", short(back), e, e2)
	}
	apart(t, text, slices.Concat(places(back), places(again), placesOfText(text)))
	back.Wits[0].Sigs[0] = "n2;"
	back.Wits[1].Pres = append(back.Wits[1].Pres, "n3;")
	back.Tx.Ins[0].Age = 99
	back.Tx.Outs[1].Lock.Kids[1].Kids[0].Term = "Pn5;"
	if !sameSigned(again, s) {
		t.Errorf("%s", short(again))
	}
	if back.Wits[0].Sigs[1] != "n1;" || back.Wits[1].Sigs[0] != "n1;" || !sameOut(back.Tx.Outs[0], x.Outs[0]) || !sameOut(back.Tx.Outs[2], x.Outs[2]) {
		t.Errorf("%s", short(back))
	}
}
