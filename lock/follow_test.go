package lock

import (
	"fmt"
	"math"
	"math/rand"
	"slices"
	"testing"

	"sluiceway/api"
	"sluiceway/term"
)

// TestP11_7ReadOfWrite: Read of what Write tells is the lock; unlike locks are written unlike, and none is the beginning of another one.
func TestP11_7ReadOfWrite(t *testing.T) {
	met := map[string]api.Lock{}
	for seed := range int64(20000) {
		draw := rand.New(rand.NewSource(seed))
		l := drawn(draw, 1+draw.Intn(64)>>draw.Intn(6))
		s, e := Write(l)
		if e != api.OK {
			t.Fatalf("Write of %s: %d", short(l), e)
		}
		if back, e := Read(s); e != api.OK || !same(back, l) {
			t.Fatalf("Read of %s: %s, %d", short(s), short(back), e)
		}
		if other, there := met[s]; there && !same(l, other) {
			t.Fatalf("%s and %s are written %s", short(l), short(other), short(s))
		}
		met[s] = l
		unread(t, s[:draw.Intn(len(s))])
	}
}

// TestP11_7WriteOfRead: what Read takes is written just so.
func TestP11_7WriteOfRead(t *testing.T) {
	for seed := range int64(20000) {
		draw := rand.New(rand.NewSource(seed))
		s := []byte(written(drawn(draw, 1+draw.Intn(9))))
		s[draw.Intn(len(s))] = drawnByte(draw)[0]
		l, e := Read(string(s))
		if back, e2 := Write(l); e != e2 || e == api.OK && back != string(s) {
			t.Fatalf("%q: %s, %d, written %s, %d", s, short(l), e, short(back), e2)
		}
	}
}

// TestP11_7MoreOpens: whatever a witness opens is opened by one that has more, wherever it has it, and later, and at a greater age.
func TestP11_7MoreOpens(t *testing.T) {
	l := All(Any(Sig("Pn1;"), Sig("Pn2;")), Any(Pre("Hn1;"), Pre("Hn2;")), After(5), Older(7))
	w := opener()
	others := []api.Term{"", "x", "Sn2;t1:m", "Sn9;t1:m", "Sn1;t1:x", "n2;", "Sn1;t1:m", "n1;"}
	for n := range 16 {
		for _, x := range others {
			for at := range n + 1 {
				more := api.Witness{Sigs: slices.Insert(slices.Repeat([]api.Term{x}, n), at, w.Sigs...), Pres: slices.Insert(slices.Repeat([]api.Term{x}, n), n-at, w.Pres...)}
				for _, k := range []int{0, 1, 1 << 30, math.MaxInt - 7} {
					opensAs(t, true, l, more, "t1:m", 5+k, 7)
					opensAs(t, true, l, more, "t1:m", 5, 7+k)
					opensAs(t, true, l, more, "t1:m", 5+k, 7+k)
				}
			}
		}
	}
	opensAs(t, false, l, w, "t1:m", 4, math.MaxInt)
	opensAs(t, false, l, w, "t1:m", math.MaxInt, 6)
}

// TestP11_7NothingElseOpens: whoever has neither the secret nor the preimage opens nothing that asks for them, whatever it shows and how late it is.
func TestP11_7NothingElseOpens(t *testing.T) {
	shown := []api.Term{"", "x", "Pn1;", "Hn1;", "HHn1;", "Sn2;t1:m", "SPn1;t1:m", "SHn1;t1:m", "Sn1;t1:x", "Sn2;Pn1;", "Bn1;t1:m", "Bn2;n1;", "T1:n1;", "Dn1;t1:x", "t3:n1;", "n2;", "n10;", "n11;", "WPn1;Pn2;"}
	for from := range shown {
		l := slices.Concat(shown[from:], shown[:from])[:16]
		w := api.Witness{Sigs: l, Pres: l}
		for _, asks := range []api.Lock{Sig("Pn1;"), Pre("Hn1;"), All(After(0), Sig("Pn1;")), All(Sig("Pn2;"), Pre("Hn1;")), Any(Sig("Pn1;"), Pre("Hn1;")), Any(All(Sig("Pn1;"), Older(0)), All(Pre("Hn1;"), After(0)))} {
			opensAs(t, false, asks, w, "t1:m", math.MaxInt, math.MaxInt)
		}
	}
}

// TestP11_7EachKeyIsAsked: of a lock that asks for several signatures and preimages each one has to be there.
func TestP11_7EachKeyIsAsked(t *testing.T) {
	var kids []api.Lock
	var w api.Witness
	for i := range 4 {
		secret, _ := term.Name(int64(i))
		key, _ := term.Pub(secret)
		sig, _ := term.Sign(secret, "t1:m")
		hash, _ := term.Hash(secret)
		kids = append(kids, Sig(key), Pre(hash))
		w.Sigs, w.Pres = append(w.Sigs, sig), append(w.Pres, secret)
	}
	l := All(kids...)
	opensAs(t, true, l, w, "t1:m", 0, 0)
	for i := range 4 {
		less := api.Witness{Sigs: slices.Delete(slices.Clone(w.Sigs), i, i+1), Pres: w.Pres}
		opensAs(t, false, l, less, "t1:m", math.MaxInt, math.MaxInt)
		less = api.Witness{Sigs: w.Sigs, Pres: slices.Delete(slices.Clone(w.Pres), i, i+1)}
		opensAs(t, false, l, less, "t1:m", math.MaxInt, math.MaxInt)
	}
	for i, k := range kids {
		if want := i%2 == 0; want != slices.Equal(Keys(k), []api.Term{api.Term(fmt.Sprintf("Pn%d;", i/2))}) {
			t.Errorf("Keys of %v: %v", k, Keys(k))
		}
	}
}
