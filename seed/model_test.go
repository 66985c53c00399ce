package seed

import (
	"fmt"
	"maps"
	"math/rand"
	"slices"
	"testing"

	"sluiceway/api"
	"sluiceway/term"
)

// A model is a store by the chapter's words alone: all that was heard, by places, and the places that are kept. What a secret makes is written by hand.
type model struct {
	heard map[int64]api.Term
	kept  []int64
}

func newModel() *model { return &model{heard: map[int64]api.Term{}} }

func (m *model) copy() *model { return &model{maps.Clone(m.heard), slices.Clone(m.kept)} }

func (m *model) next() int64 { return api.Top - int64(len(m.heard)) }

// down is the secret from x on, by the lowest k bits of a place; false where a step has no room.
func down(x api.Term, k int, i int64) (api.Term, bool) {
	for b := k - 1; b >= 0; b-- {
		if i/(1<<b)%2 == 1 {
			x = child(x, b)
		}
	}
	return x, term.Right(x)
}

func (m *model) secret(seed api.Term, i int64) (api.Term, api.Errno) {
	if i < 0 || i >= places {
		return "", api.ErrArg
	}
	if !term.Right(seed) {
		return "", api.ErrTerm
	}
	if x, ok := down(seed, 20, i); ok {
		return x, api.OK
	}
	return "", api.ErrLimit
}

func (m *model) add(i int64, x api.Term) api.Errno {
	if i != m.next() || i < 0 {
		return api.ErrArg
	}
	if !term.Right(x) {
		return api.ErrTerm
	}
	k := lowZeros(i)
	isLike := func(p int64) bool { return p/(1<<k) == i/(1<<k) }
	for _, p := range m.kept {
		if made, ok := down(x, k, p); isLike(p) && (!ok || made != m.heard[p]) {
			return api.ErrSeed
		}
	}
	m.heard[i] = x
	m.kept = append(slices.DeleteFunc(m.kept, isLike), i)
	return api.OK
}

func (m *model) get(i int64) (api.Term, api.Errno) {
	if x, ok := m.heard[i]; ok {
		return x, api.OK
	}
	return "", api.ErrNone
}

// seeds are those that drawn secrets come from: some of them have no room for all steps.
func seeds() []api.Term {
	return []api.Term{"n7;", "n8;", "Dn7;t1:0", "Dn8;t2:10", "T2:n7;n8;", nest(44), nest(45), nest(46), nest(62), sized(16274), sized(16275), sized(16375)}
}

// A drawer draws what is called.
type drawer struct{ *rand.Rand }

func pick[T any](d drawer, l []T) T { return l[d.Intn(len(l))] }

// parent is what makes what was heard last, if any does: x's first part.
func parent(x api.Term) api.Term {
	p, ok := term.Open(x)
	if !ok || len(p.Kids) == 0 {
		return "n9;"
	}
	return p.Kids[0]
}

// fit is a secret that may be heard next: where there is something to make, what makes the last one.
func (d drawer) fit(m *model, seed api.Term) api.Term {
	if i := m.next(); lowZeros(i) == 0 {
		return at(seed, i&api.Top)
	}
	return parent(m.heard[m.next()+1])
}

func (d drawer) term(m *model, seed api.Term) api.Term {
	i := m.next() & api.Top
	switch d.Intn(40) {
	case 0:
		return pick(d, wrong())
	case 1:
		return pick(d, seeds())
	case 2:
		return at(pick(d, seeds()), i)
	case 3:
		return at(seed, i^1<<d.Intn(20))
	case 4:
		return child(d.fit(m, seed), d.Intn(20))
	case 5:
		if len(m.kept) > 0 {
			return m.heard[pick(d, m.kept)]
		}
	case 6:
		return parent(d.fit(m, seed))
	}
	return d.fit(m, seed)
}

func (d drawer) place(m *model) int64 {
	switch d.Intn(20) {
	case 0:
		return pick(d, strange())
	case 1:
		return m.next() + int64(d.Intn(9)-4)
	case 2:
		return d.Int63n(places)
	case 3:
		return m.next() ^ 1<<d.Intn(21)
	}
	return m.next()
}

func tellsAlike(t *testing.T, s *Store, m *model, i int64) {
	t.Helper()
	x, e := s.Get(i)
	wantX, wantE := m.get(i)
	if x != wantX || e != wantE {
		t.Fatalf("Get of %d: %.200q, %d, want %.200q, %d", i, x, e, wantX, wantE)
	}
}

// TestP15_2Model: drawn calls, of secrets that fit and that don't, on stores that are copied now and then.
func TestP15_2Model(t *testing.T) {
	answers := map[api.Errno]int{}
	for round := range int64(200) {
		d := drawer{rand.New(rand.NewSource(round))}
		s, m, seed := New(), newModel(), pick(d, seeds())
		for range 150 {
			i, x := d.place(m), d.term(m, seed)
			have, want := s.Add(i, x), m.add(i, x)
			is(t, fmt.Sprintf("Add of %.200q at %d", x, i), have, want)
			is(t, "Count", s.Count(), int64(len(m.heard)))
			is(t, "Kept", s.Kept(), len(m.kept))
			answers[have]++
			for range 3 {
				tellsAlike(t, s, m, d.place(m))
				tellsAlike(t, s, m, min(api.Top, m.next()+1+int64(d.Intn(1+len(m.heard)))))
			}
			if d.Intn(20) == 0 {
				c := m.copy()
				s.Copy().Add(c.next(), x)
				c.add(c.next(), x)
				s = s.Copy()
			}
			if d.Intn(10) == 0 {
				seed = pick(d, seeds())
			}
		}
		for i := m.next() - 3; i <= api.Top; i++ {
			tellsAlike(t, s, m, i)
		}
	}
	for _, e := range []api.Errno{api.OK, api.ErrArg, api.ErrTerm, api.ErrSeed} {
		if answers[e] < 500 {
			t.Errorf("Add answered %d %d times: too few", e, answers[e])
		}
	}
}

// TestP15_2ModelFar: the same behind many secrets of one seed, where more low bits are 0.
func TestP15_2ModelFar(t *testing.T) {
	for round, n := range counts() {
		d := drawer{rand.New(rand.NewSource(int64(round)))}
		from := max(0, n-20)
		s, m := grown(t, from), newModel()
		for k := 20; k >= 0; k-- {
			if from>>k&1 == 1 {
				m.kept = append(m.kept, places-from>>k<<k)
			}
		}
		for i := places - from; i <= api.Top; i++ {
			m.heard[i] = ""
		}
		for _, p := range m.kept {
			m.heard[p] = at("n7;", p)
		}
		for range 200 {
			i, x := d.place(m), d.term(m, "n7;")
			is(t, fmt.Sprintf("Add of %.200q at %d", x, i), s.Add(i, x), m.add(i, x))
			is(t, "Count", s.Count(), int64(len(m.heard)))
			is(t, "Kept", s.Kept(), len(m.kept))
			for _, p := range m.kept {
				tellsAlike(t, s, m, p)
			}
		}
	}
}

func TestP15_1Model(t *testing.T) {
	d, m := drawer{rand.New(rand.NewSource(1))}, newModel()
	for range 5000 {
		s, i := pick(d, append(seeds(), wrong()...)), d.place(m)
		want, wantE := m.secret(s, i)
		isSecret(t, s, i, want, wantE)
		i = d.Int63n(places)
		want, wantE = m.secret(s, i)
		isSecret(t, s, i, want, wantE)
	}
}
