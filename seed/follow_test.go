package seed

import (
	"math/rand"
	"testing"

	"sluiceway/api"
	"sluiceway/deduce"
)

// drawnSeeds are secrets that nobody makes who heard nothing.
func drawnSeeds() []api.Term {
	return []api.Term{"n0;", "n7;", "Dn7;t1:0", "DDn7;t2:19t1:5", "Vn1;n2;", "Kn1;t0:", "Bn1;n2;", "T2:n1;n2;", "Hn4;", nest(44)}
}

// TestP15_5TellsEach: of several seeds, behind each Add, as many as went in; never more than 21 are kept. (Of n7; all places stand in TestP15_2AllPlaces.)
func TestP15_5TellsEach(t *testing.T) {
	for _, seed := range append(drawnSeeds(), "t0:", "T0:", "Pn1;", sized(16274)) {
		s := New()
		for i := int64(api.Top); i > api.Top-70; i-- {
			x, e := Secret(seed, i)
			is(t, "Secret", e, api.OK)
			adds(t, s, i, x)
			if s.Kept() > 21 {
				t.Fatalf("%d kept", s.Kept())
			}
			for j := i; j <= api.Top; j++ {
				gets(t, s, j, at(seed, j))
			}
		}
	}
}

// others are secrets near a place's own: of other places and seeds, of more steps and fewer, and all that was heard.
func others(seed api.Term, i int64) []api.Term {
	l := []api.Term{"n99;", "t0:", "T0:", "T2:" + seed + seed, "H" + at(seed, i), "P" + at(seed, i)}
	for b := range 20 {
		l = append(l, at(seed, i^1<<b), child(at(seed, i), b), child(seed, b))
	}
	for x := at(seed, i); len(x) > 0 && x[0] == api.OpChild; x = parent(x) {
		l = append(l, parent(x))
	}
	for _, other := range drawnSeeds() {
		l = append(l, at(other, i), other)
	}
	for j := i + 1; j <= min(i+64, api.Top); j++ {
		l = append(l, at(seed, j))
	}
	return l
}

// TestP15_5NoOther: no other secret is taken in the place of one that has to make an elder one.
func TestP15_5NoOther(t *testing.T) {
	for _, seed := range []api.Term{"n7;", "Dn7;t1:0", "DDn7;t2:19t1:5", nest(44)} {
		s := New()
		for i := int64(api.Top); i > api.Top-70; i-- {
			for _, x := range others(seed, i) {
				if lowZeros(i) > 0 && x != at(seed, i) {
					if e := s.Copy().Add(i, x); e == api.OK {
						t.Fatalf("Add of %.200q at %d: it was heard", x, i)
					}
				}
			}
			hears(t, s, seed, i)
		}
	}
	for k := 1; k <= 20; k++ {
		i := int64(places - 1<<k)
		s := grown(t, 1<<k-1)
		for _, x := range others("n7;", i) {
			if x != at("n7;", i) {
				is(t, "Add of another", s.Copy().Add(i, x), api.ErrSeed)
			}
		}
		adds(t, s, i, at("n7;", i))
	}
}

// TestP15_5NotMade: who heard all secrets down to a place makes none below it, whatever else can be made of them.
func TestP15_5NotMade(t *testing.T) {
	for _, seed := range drawnSeeds() {
		m := deduce.New()
		for i := int64(api.Top); i > api.Top-70; i-- {
			for j := range int64(40) {
				is(t, "made ahead of being heard", m.Knows(at(seed, i-j)), false)
			}
			for b := range 20 {
				is(t, "made ahead of being heard", m.Knows(at(seed, 1<<b-1)), false)
			}
			is(t, "Learn", m.Learn(at(seed, i)), api.OK)
			is(t, "made of what was heard", m.Knows(at(seed, i)), true)
		}
	}
}

// TestP15_5KeptMakeAll: who has what a store of many secrets keeps makes all that was heard, and nothing else.
func TestP15_5KeptMakeAll(t *testing.T) {
	r := rand.New(rand.NewSource(5))
	for _, n := range append(counts(), places) {
		s, m := grown(t, n), deduce.New()
		kept := 0
		for k := range 21 {
			if n>>k&1 == 0 {
				continue
			}
			x, e := s.Get(places - n>>k<<k)
			is(t, "Get", e, api.OK)
			is(t, "Learn", m.Learn(x), api.OK)
			kept++
		}
		is(t, "Kept", s.Kept(), kept)
		for range 200 {
			i := r.Int63n(places)
			is(t, "made of what is kept", m.Knows(at("n7;", i)), i >= places-n)
		}
		is(t, "made of what is kept", n == places || !m.Knows(at("n7;", next(s))), true)
	}
}
