package seed

import (
	"cmp"
	"slices"
	"strings"
	"testing"
	"unsafe"

	"sluiceway/api"
)

// unsteady is a text whose bytes the second answer changes.
func unsteady(x api.Term) (api.Term, func()) {
	b := []byte(x)
	return api.Term(unsafe.String(&b[0], len(b))), func() {
		for i := range b {
			b[i] = '?'
		}
	}
}

// spoil changes the bytes of a text that was answered, and so lies in memory of its own.
func spoil(x api.Term) {
	b := unsafe.Slice(unsafe.StringData(string(x)), len(x))
	for i := range b {
		b[i] = '?'
	}
}

// apart asks that none of these texts share memory.
func apart(t *testing.T, l []api.Term) {
	t.Helper()
	start := func(x api.Term) uintptr { return uintptr(unsafe.Pointer(unsafe.StringData(string(x)))) }
	slices.SortFunc(l, func(a, b api.Term) int { return cmp.Compare(start(a), start(b)) })
	for i := 1; i < len(l); i++ {
		if start(l[i-1])+uintptr(len(l[i-1])) > start(l[i]) {
			t.Fatalf("%.60q and %.60q share memory", l[i-1], l[i])
		}
	}
}

// TestP15_1NewMemory: at 0, where the secret is the seed, too.
func TestP15_1NewMemory(t *testing.T) {
	seed := api.Term(strings.Clone("n7;"))
	l := []api.Term{seed}
	for range 2 {
		for _, i := range []int64{0, 0, 1, 2, 3, 1 << 19, api.Top} {
			x, e := Secret(seed, i)
			is(t, "Secret", e, api.OK)
			l = append(l, x)
		}
	}
	apart(t, l)
	is(t, "the seed", seed, "n7;")
}

func TestP15_1SeedNotKept(t *testing.T) {
	for _, i := range []int64{0, 1, api.Top} {
		seed, change := unsteady("n7;")
		x, e := Secret(seed, i)
		is(t, "Secret", e, api.OK)
		is(t, "the seed", seed, "n7;")
		change()
		is(t, "the secret", x, at("n7;", i))
	}
}

// TestP15_2NotKept: what is done to a term once it was heard, or refused, is not seen; ahead of that it stays as it was.
func TestP15_2NotKept(t *testing.T) {
	s := New()
	for i := int64(api.Top); i > api.Top-70; i-- {
		for _, x := range []api.Term{"n9;", "n", at("n7;", i)} {
			if x == "n9;" && lowZeros(i) == 0 {
				continue
			}
			given, change := unsteady(x)
			s.Add(i, given)
			is(t, "what was handed in", given, x)
			change()
		}
		is(t, "what is told", told(s), told(grown(t, api.Top-i+1)))
	}
}

// TestP15_3NewMemory: answers share no memory with one another, with what was handed in, and with what copies answer; nor with what a store keeps.
func TestP15_3NewMemory(t *testing.T) {
	s := New()
	var l []api.Term
	for i := int64(api.Top); i > api.Top-45; i-- {
		x := at("n7;", i)
		l = append(l, x)
		adds(t, s, i, x)
	}
	c := s.Copy()
	for i := next(s) + 1; i <= api.Top; i++ {
		for _, from := range []*Store{s, c, s} {
			x, e := from.Get(i)
			is(t, "Get", e, api.OK)
			l = append(l, x)
		}
	}
	apart(t, l)
	was := told(s)
	for _, x := range l {
		spoil(x)
	}
	is(t, "what is told once all answers were changed", told(s), was)
	is(t, "what a copy tells", told(c), was)
	is(t, "what is told", was, told(grown(t, 45)))
}
