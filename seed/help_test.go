package seed

import (
	"fmt"
	"math"
	"math/bits"
	"strconv"
	"strings"
	"sync"
	"testing"

	"sluiceway/api"
)

const places = 1 << 20

// is asks for one answer.
func is[T comparable](t *testing.T, what string, have, want T) {
	t.Helper()
	if have != want {
		t.Fatalf("%s: %.200v, want %.200v", what, have, want)
	}
}

// child is a step, written by hand.
func child(x api.Term, b int) api.Term {
	d := strconv.Itoa(b)
	return "D" + x + api.Term("t"+strconv.Itoa(len(d))+":"+d)
}

// at is the secret at a place, written by hand: a step at the lowest bit is the last one.
func at(seed api.Term, i int64) api.Term {
	if i == 0 {
		return seed
	}
	return child(at(seed, i&(i-1)), bits.TrailingZeros64(uint64(i)))
}

// lowZeros is how many bits are 0 from the lowest one on, told by dividing.
func lowZeros(i int64) int {
	if i == 0 {
		return 20
	}
	k := 0
	for ; i%2 == 0; i /= 2 {
		k++
	}
	return k
}

// nest is a term that is n deep.
func nest(n int) api.Term { return api.Term(strings.Repeat("H", n-1) + "n1;") }

// sized is a term of n bytes, for n from 12400 to 16400.
func sized(n int) api.Term {
	full := text(api.MaxText)
	rest := n - len("T4:") - 3*len(full)
	for k := rest; k >= 0; k-- {
		if last := text(k); len(last) == rest {
			return "T4:" + full + full + full + last
		}
	}
	return ""
}

func text(n int) api.Term {
	return api.Term("t" + strconv.Itoa(n) + ":" + strings.Repeat("x", n))
}

// wrong are no right terms.
func wrong() []api.Term {
	return []api.Term{"", "n", "n7", "n07;", "n7;n7;", "n9223372036854775808;", " n7;", "t3:ab", "T1:", "D", "Dn7;", "q", "\xff", "\x00", "PVn1;n2;", "Xn9;n10;", "Wn1;Pn2;", nest(65), sized(api.MaxTerm + 1), text(api.MaxText + 1)}
}

// strange are numbers that are no places.
func strange() []int64 {
	return []int64{-1, -2, places, places + 1, -places, math.MinInt64, math.MinInt64 + 1, math.MaxInt64, math.MaxInt64 - 1, 1 << 32, 1<<32 + 5, math.MinInt64 + places - 1}
}

// adds asks that a secret is heard, and what Count tells.
func adds(t *testing.T, s *Store, i int64, x api.Term) {
	t.Helper()
	n := s.Count()
	is(t, fmt.Sprintf("Add at %d", i), s.Add(i, x), api.OK)
	is(t, "Count", s.Count(), n+1)
}

// hears asks that a store hears a seed's secrets, down to that place and with it.
func hears(t *testing.T, s *Store, seed api.Term, last int64) {
	t.Helper()
	for i := next(s); i >= last; i-- {
		if e := s.Add(i, at(seed, i)); e != api.OK {
			t.Fatalf("Add at %d: %d", i, e)
		}
	}
}

// next is the place that comes next.
func next(s *Store) int64 { return api.Top - s.Count() }

// near are places of which a store is asked to see whether it changed: some that it heard, at both ends and by powers of two, and some that it didn't.
func near(s *Store) []int64 {
	l := strange()
	for k := int64(1); k <= places; k *= 2 {
		l = append(l, api.Top+1-k, next(s)+k, k-1)
	}
	for k := int64(-1); k < 9; k++ {
		l = append(l, next(s)+k, api.Top-k)
	}
	return l
}

// told is what a store tells of itself.
func told(s *Store) string {
	var b strings.Builder
	fmt.Fprintf(&b, "%d, %d kept", s.Count(), s.Kept())
	for _, i := range near(s) {
		x, e := s.Get(i)
		fmt.Fprintf(&b, "; %d: %s, %d", i, x, e)
	}
	return b.String()
}

// refuses asks that Add answers that error, and nothing changes.
func refuses(t *testing.T, s *Store, i int64, x api.Term, want api.Errno) {
	t.Helper()
	was := told(s)
	is(t, fmt.Sprintf("Add of %.40q at %d", x, i), s.Add(i, x), want)
	is(t, "the store behind it", told(s), was)
}

// gets asks for the secret at a place.
func gets(t *testing.T, s *Store, i int64, want api.Term) {
	t.Helper()
	x, e := s.Get(i)
	if x != want || e != api.OK {
		t.Fatalf("Get of %d: %.200q, %d, want %.200q", i, x, e, want)
	}
}

// lacks asks that Get of these places finds none.
func lacks(t *testing.T, s *Store, l ...int64) {
	t.Helper()
	for _, i := range l {
		if x, e := s.Get(i); x != "" || e != api.ErrNone {
			t.Fatalf("Get of %d: %.200q, %d, want none", i, x, e)
		}
	}
}

// A run is all of n7;'s secrets heard one by one: copies of the store at each 1024 of them, one with all of them, and the first thing that was not as it should be.
type run struct {
	copies []*Store
	all    *Store
	wrong  string
}

var whole = sync.OnceValue(func() run {
	r := run{all: New()}
	tells := func(i int64, what string, have, want any) {
		if have != want && r.wrong == "" {
			r.wrong = fmt.Sprintf("%s behind Add at %d: %v, want %v", what, i, have, want)
		}
	}
	for n := int64(0); n < places; n++ {
		if n%1024 == 0 {
			r.copies = append(r.copies, r.all.Copy())
		}
		i := api.Top - n
		tells(i, "the answer", r.all.Add(i, at("n7;", i)), api.OK)
		tells(i, "Count", r.all.Count(), n+1)
		tells(i, "Kept", r.all.Kept(), bits.OnesCount64(uint64(n+1)))
	}
	return r
})

// grown is a store that heard so many of n7;'s secrets.
func grown(t *testing.T, n int64) *Store {
	t.Helper()
	r := whole()
	is(t, "all places in their order", r.wrong, "")
	if n == places {
		return r.all.Copy()
	}
	s := r.copies[n/1024].Copy()
	hears(t, s, "n7;", places-n)
	is(t, "Count", s.Count(), n)
	return s
}
