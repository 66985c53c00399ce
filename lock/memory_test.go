package lock

import (
	"cmp"
	"math/rand"
	"slices"
	"strings"
	"testing"
	"unsafe"

	"sluiceway/api"
)

// A place is where something lies in memory. It holds a pointer, not a number: what lies there must outlive the question, lest its memory be given to a later answer.
type place struct {
	from unsafe.Pointer
	size uintptr
}

func (p place) start() uintptr { return uintptr(p.from) }

func placeOf[T any](first *T, n int) place {
	return place{unsafe.Pointer(first), uintptr(n) * unsafe.Sizeof(*first)}
}

// places are all places of a lock's lists, up to what they have room for, and of its terms.
func places(l api.Lock) []place {
	var all []place
	if len(l.Term) > 0 {
		all = append(all, placeOf(unsafe.StringData(string(l.Term)), len(l.Term)))
	}
	if cap(l.Kids) > 0 {
		all = append(all, placeOf(unsafe.SliceData(l.Kids), cap(l.Kids)))
	}
	for _, k := range l.Kids {
		all = append(all, places(k)...)
	}
	return all
}

func placesOf(l []api.Term) []place {
	var all []place
	if cap(l) > 0 {
		all = append(all, placeOf(unsafe.SliceData(l), cap(l)))
	}
	for _, x := range l {
		if len(x) > 0 {
			all = append(all, placeOf(unsafe.StringData(string(x)), len(x)))
		}
	}
	return all
}

// apart asks that no two of these places share a byte.
func apart(t *testing.T, what string, all []place) {
	t.Helper()
	slices.SortFunc(all, func(a, b place) int { return cmp.Compare(a.start(), b.start()) })
	for i := 1; i < len(all); i++ {
		if all[i-1].start()+all[i-1].size > all[i].start() {
			t.Fatalf("%s: memory is shared", what)
		}
	}
}

// loose is a lock of the same parts, in memory of its own, with something behind the length of each list.
func loose(l api.Lock) api.Lock {
	kids := make([]api.Lock, 0, len(l.Kids)+2)
	for _, k := range l.Kids {
		kids = append(kids, loose(k))
	}
	rest := kids[len(kids):cap(kids)]
	for i := range rest {
		rest[i] = api.Lock{Kind: 99, Term: "behind", N: 99}
	}
	l.Kids, l.Term = kids, api.Term(strings.Clone(string(l.Term)))
	return l
}

// untouched asks that a lock is as it was, what lies behind the lengths of its lists included.
func untouched(t *testing.T, what string, l, was api.Lock) {
	t.Helper()
	if !same(l, was) {
		t.Fatalf("%s: %s became %s", what, short(was), short(l))
	}
	for _, p := range laid(l) {
		for _, x := range p.Kids[len(p.Kids):cap(p.Kids)] {
			if !same(x, api.Lock{Kind: 99, Term: "behind", N: 99}) {
				t.Fatalf("%s: %s lies behind a length", what, short(x))
			}
		}
	}
}

func TestP11_6OnlyRead(t *testing.T) {
	for seed := range int64(2000) {
		draw := rand.New(rand.NewSource(seed))
		was := drawn(draw, 1+draw.Intn(20))
		if draw.Intn(3) == 0 {
			was = spoilt(draw, was)
		}
		l := loose(was)
		w := drawnWitness(draw)
		wit := api.Witness{Sigs: append(slices.Clone(w.Sigs), "behind")[:len(w.Sigs)], Pres: append(slices.Clone(w.Pres), "behind")[:len(w.Pres)]}
		Right(l)
		untouched(t, "Right", l, was)
		Write(l)
		untouched(t, "Write", l, was)
		Keys(l)
		untouched(t, "Keys", l, was)
		Opens(l, wit, "t1:m", 3, 3)
		untouched(t, "Opens", l, was)
		if !slices.Equal(wit.Sigs, w.Sigs) || !slices.Equal(wit.Pres, w.Pres) || wit.Sigs[:len(w.Sigs)+1][len(w.Sigs)] != "behind" || wit.Pres[:len(w.Pres)+1][len(w.Pres)] != "behind" {
			t.Fatal("Opens has changed the witness")
		}
		All(l.Kids...)
		Any(l.Kids...)
		All(l, l)
		untouched(t, "All, Any", l, was)
	}
}

func TestP11_6NewMemory(t *testing.T) {
	for seed := range int64(2000) {
		draw := rand.New(rand.NewSource(seed))
		l := loose(drawn(draw, 1+draw.Intn(20)))
		text := written(l)
		in := append(places(l), placeOf(unsafe.StringData(text), len(text)))
		if draw.Intn(3) == 0 {
			l.Kids = append(l.Kids[:len(l.Kids):len(l.Kids)], loose(spoilt(draw, drawn(draw, 5))))
			in = append(places(l), placeOf(unsafe.StringData(text), len(text)))
		}
		apart(t, "the test's own", in)
		all := slices.Concat(in, places(All(l, l)), places(Any(l, l)), places(All(l.Kids...)), places(Any(l.Kids...)), places(Sig(l.Term)), places(Pre(l.Term)), placesOf(Keys(l)), placesOf(Keys(l)))
		for range 2 {
			back, _ := Read(text)
			s, e := Write(l)
			all = append(all, places(back)...)
			if e == api.OK {
				all = append(all, placeOf(unsafe.StringData(s), len(s)))
			}
		}
		apart(t, text, all)
	}
}

// TestP11_6AnswersAreTheirOwn: changing an answer changes nothing else.
func TestP11_6AnswersAreTheirOwn(t *testing.T) {
	kid := api.Lock{Kind: api.LAll, Kids: []api.Lock{After(1), After(2)}}
	kids := []api.Lock{kid, kid}
	l := Any(kids...)
	l.Kids[0].Kids[0] = After(9)
	l.Kids[1].Kind = 0
	if kids[0].Kind != api.LAll || kids[1].Kind != api.LAll || kid.Kids[0].N != 1 || l.Kids[1].Kids[0].N != 1 {
		t.Errorf("%v, %v, %v", kids, kid, l)
	}
	kids[0], kid.Kids[1] = After(7), After(7)
	if !same(l.Kids[0], All(After(9), After(2))) || !same(l.Kids[1], api.Lock{Kids: []api.Lock{After(1), After(2)}}) {
		t.Errorf("%v", l)
	}
	a, _ := Read(exampleText)
	a.Kids[0] = After(5)
	a.Kids[1].Kids[0].Term = "n1;"
	if b, e := Read(exampleText); e != api.OK || !same(b, example()) {
		t.Errorf("%v, %d", b, e)
	}
	keys := Keys(example())
	keys[0] = "n1;"
	if !slices.Equal(Keys(example()), []api.Term{"Pn1;"}) {
		t.Error(Keys(example()))
	}
}
