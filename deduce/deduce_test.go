package deduce

import (
	"math/rand"
	"slices"
	"strconv"
	"strings"
	"testing"
	"unsafe"

	"sluiceway/api"
	"sluiceway/term"
)

type terms = []api.Term

// heard is a mind that has heard l.
func heard(t testing.TB, l ...api.Term) *Mind {
	t.Helper()
	m := New()
	for _, x := range l {
		if e := m.Learn(x); e != api.OK {
			t.Fatalf("Learn(%.60q): %d", x, e)
		}
	}
	return m
}

func name(n int) api.Term { return api.Term("n" + strconv.Itoa(n) + ";") }

// nest is a term that is n deep.
func nest(n int) api.Term { return api.Term(strings.Repeat("H", n-1) + "n1;") }

// sized is a tuple of texts, of n bytes, for n from 12400 to 16384.
func sized(n int) api.Term {
	full := api.Term("t4096:" + strings.Repeat("x", 4096))
	rest := n - len("T4:") - 3*len(full)
	for k := rest; k >= 0; k-- {
		if last := api.Term("t" + strconv.Itoa(k) + ":" + strings.Repeat("x", k)); len(last) == rest {
			return "T4:" + full + full + full + last
		}
	}
	return ""
}

func holds(t *testing.T, m *Mind, what string, want terms) {
	t.Helper()
	if l := m.Held(); !slices.Equal(l, want) {
		t.Errorf("%s: held is %.400q, want %.400q", what, l, want)
	}
}

func knows(t *testing.T, m *Mind, what string, yes, no terms) {
	t.Helper()
	for _, x := range yes {
		if !m.Knows(x) {
			t.Errorf("%s: %.80q is not known", what, x)
		}
	}
	for _, x := range no {
		if m.Knows(x) {
			t.Errorf("%s: %.80q is known", what, x)
		}
	}
}

func TestP3_1NewAndNil(t *testing.T) {
	var zero Mind
	for _, m := range []*Mind{New(), &zero, New().Copy(), zero.Copy()} {
		if m == nil || len(m.Held()) != 0 {
			t.Fatal("a new mind is none, or holds something")
		}
		knows(t, m, "nothing heard", terms{"t0:", "t1:a", "T0:"}, terms{"n0;", "n1;", "Pn1;", "Hn1;"})
		if e := m.Learn("n1;"); e != api.OK || !m.Knows("n1;") {
			t.Errorf("a new mind does not learn: %d", e)
		}
	}
	knows(t, New(), "another one heard", nil, terms{"n1;"})
	var none *Mind
	for _, x := range (terms{"n1;", "t0:", "", "n"}) {
		if e := none.Learn(x); e != api.ErrNil {
			t.Errorf("a nil mind learns %q: %d", x, e)
		}
	}
	knows(t, none, "a nil mind", nil, terms{"t0:", "T0:", "n1;", "", "n"})
	if none.Copy() != nil || len(none.Held()) != 0 {
		t.Error("a nil mind has a copy, or holds something")
	}
}

func TestP3_2WrongTerms(t *testing.T) {
	m := heard(t, "n1;")
	for _, x := range (terms{"", "n", "n01;", "n1", "n1;n2;", "T1:", "PVn1;n2;", "Xn2;n1;", "Wn1;Pn2;", "Ln1;t0:", "q", nest(65), "H" + sized(api.MaxTerm)}) {
		if e := m.Learn(x); e != api.ErrTerm {
			t.Errorf("Learn(%.60q): %d", x, e)
		}
		knows(t, m, "what is no right term", nil, terms{x})
	}
	holds(t, m, "behind what is no right term", terms{"n1;"})
	for _, x := range (terms{nest(64), sized(api.MaxTerm)}) {
		if e := m.Learn(x); e != api.OK || !m.Knows(x) {
			t.Errorf("Learn(%.60q), as great as may be: %d", x, e)
		}
	}
}

func TestP3_2Limit(t *testing.T) {
	m := heard(t, "T3:n5000;n5001;T1:n5002;")
	for i := range 1023 {
		for range 2 { // a term that is heard again counts once
			if e := m.Learn(name(i)); e != api.OK {
				t.Fatalf("Learn of term %d: %d", i+2, e)
			}
		}
	}
	before := m.Held()
	for _, x := range []struct {
		t api.Term
		e api.Errno
	}{
		{"n1023;", api.ErrLimit},
		{"t0:", api.ErrLimit},    // known, but not heard
		{"Hn1;", api.ErrLimit},   // so is this
		{"n5000;", api.ErrLimit}, // held, but not heard
		{"n5002;", api.ErrLimit},
		{"n", api.ErrTerm},
		{"", api.ErrTerm},
		{"n0;", api.OK},
		{"n1022;", api.OK},
		{"T3:n5000;n5001;T1:n5002;", api.OK},
	} {
		if e := m.Learn(x.t); e != x.e {
			t.Errorf("Learn(%q) behind 1024 terms: %d, want %d", x.t, e, x.e)
		}
		if e := m.Copy().Learn(x.t); e != x.e {
			t.Errorf("Learn(%q) of a copy behind 1024 terms: %d, want %d", x.t, e, x.e)
		}
	}
	holds(t, m, "behind what was refused", before)
	knows(t, m, "1024 heard", terms{"n5002;", "T2:n0;n1022;"}, terms{"n1023;"})
}

// What is held and then heard counts as heard, and what it is part of does not.
func TestP3_2HeldIsHeard(t *testing.T) {
	m := heard(t, "T2:n5000;n5001;", "n5000;", "n5001;", "Vn5000;n6000;", "WPn5000;Pn6000;")
	for i := range 1019 {
		if e := m.Learn(name(i)); e != api.OK {
			t.Fatalf("Learn of term %d: %d", i+6, e)
		}
	}
	if e, f, g := m.Learn("n1019;"), m.Learn("n5001;"), m.Learn("WPn5000;Pn6000;"); e != api.ErrLimit || f != api.OK || g != api.OK {
		t.Errorf("behind 1024 terms: %d, %d, %d", e, f, g)
	}
}

func TestP3_3Rules(t *testing.T) {
	for _, x := range []struct {
		what           string
		heard, yes, no terms
	}{
		{"the document's first", nil, terms{"t1:a", "Ht1:a", "T0:", "Pt1:a"}, terms{"n1;", "Pn1;"}},
		{"the document's second", terms{"n1;", "Bn1;n2;"}, terms{"n2;", "Pn2;", "Sn2;t0:", "T2:n1;n2;"}, terms{"n3;"}},
		{"the document's third", terms{"Bn1;n2;", "Pn1;"}, terms{"Bn1;n2;"}, terms{"n1;", "n2;"}},
		{"the document's fourth", terms{"n1;", "Pn2;"}, terms{"Xn1;n2;", "WPn1;Pn2;"}, terms{"n2;", "Vn1;n2;"}},
		{"the document's fifth", terms{"Bn1;n2;", "Bn2;n1;", "BHt0:n2;"}, terms{"n1;", "n2;"}, nil},
		{"the document's sixth", terms{"Vn1;n2;"}, terms{"WPn1;Pn2;"}, terms{"n1;", "Pn1;"}},

		{"what was heard", terms{"n1;", "Hn2;", "Sn2;n3;", "Dn2;n3;", "Xn2;n3;", "Pn4;"}, terms{"n1;", "Hn2;", "Sn2;n3;", "Dn2;n3;", "Xn2;n3;", "Pn4;"}, terms{"n2;", "n3;", "n4;"}},
		{"a text", nil, terms{"t0:", "t3:n1;", "t3:\x00\xff;"}, terms{"n3;"}},
		{"a tuple", terms{"n1;", "Hn2;"}, terms{"T0:", "T1:n1;", "T3:n1;t0:Hn2;", "T2:T1:n1;n1;"}, terms{"T1:n2;", "T2:n1;n2;", "T2:n2;n1;", "T3:n1;n3;n1;", "T1:T1:n2;"}},
		{"a digest", terms{"n1;", "Hn2;"}, terms{"Hn1;", "HHn1;", "HHn2;", "HT2:n1;t0:"}, terms{"n2;", "Hn3;"}},
		{"a signature", terms{"n1;", "Hn2;"}, terms{"Sn1;t0:", "Sn1;n1;", "SHn2;n1;", "St0:t0:"}, terms{"Sn1;n2;", "Sn2;n1;", "Sn2;t0:"}},
		{"a box", terms{"n1;", "Hn2;"}, terms{"Bn1;t0:", "Bn1;n1;", "BHn2;n1;", "Bt0:t0:"}, terms{"Bn1;n2;", "Bn2;n1;", "Bn2;t0:"}},
		{"a child", terms{"n1;", "Hn2;"}, terms{"Dn1;t0:", "Dn1;n1;", "DHn2;n1;", "Dt0:t0:"}, terms{"Dn1;n2;", "Dn2;n1;", "Dn2;t0:"}},
		{"a joined secret", terms{"n1;", "Hn2;"}, terms{"Vn1;t0:", "Vn1;n1;", "VHn2;n1;", "Vt0:t0:"}, terms{"Vn1;n2;", "Vn2;n1;", "Vn2;t0:"}},
		{"a bound secret", terms{"n1;", "Hn2;"}, terms{"Kn1;t0:", "Kn1;n1;", "KHn2;n1;", "Kt0:t0:"}, terms{"Kn1;n2;", "Kn2;n1;", "Kn2;t0:"}},
		{"no part of what is no tuple", terms{"Hn1;", "Sn2;n3;", "Dn4;n5;", "Vn6;n7;", "Kn8;n9;", "Xn10;n11;", "Pn12;", "WPn13;Pn14;", "LPn15;n16;"}, nil,
			terms{"n1;", "n2;", "n3;", "n4;", "n5;", "n6;", "n7;", "n8;", "n9;", "n10;", "n11;", "n12;", "n13;", "n14;", "n15;", "n16;", "Pn13;", "Pn14;", "Pn15;", "Pn2;", "Pn6;", "Pn8;"}},

		{"a public key", terms{"n1;", "Hn2;", "Dn3;t0:"}, terms{"Pn1;", "PHn2;", "PDn3;t0:", "PPn1;", "PT1:n1;"}, terms{"Pn2;", "Pn3;", "PT1:n2;"}},
		{"the public key of a joined secret that was heard", terms{"Vn1;n2;"}, terms{"WPn1;Pn2;", "PWPn1;Pn2;"}, terms{"WPn2;Pn1;", "Pn1;", "Pn2;", "WPn1;Pn1;", "PVn1;n2;"}},
		{"the public key of a bound secret that was heard", terms{"Kn1;n2;"}, terms{"LPn1;n2;"}, terms{"Pn1;", "n2;", "LPn1;t0:", "LPn2;n1;", "PKn1;n2;"}},
		{"the public key of secrets joined and bound in one another", terms{"VVn1;n2;KKn3;n4;n5;"}, terms{"WWPn1;Pn2;LLPn3;n4;n5;"}, terms{"WPn1;Pn2;", "LLPn3;n4;n5;", "LPn3;n4;", "Vn1;n2;"}},
		{"the public key of a joined secret out of a box", terms{"Bn9;Vn1;n2;", "n9;"}, terms{"WPn1;Pn2;"}, terms{"Pn1;"}},
		{"the public key of a joined secret in a shut box", terms{"Bn9;Vn1;n2;"}, nil, terms{"WPn1;Pn2;"}},
		{"the public key of a joined secret that was put together", terms{"n1;", "n2;"}, terms{"Vn1;n2;", "WPn1;Pn2;", "WPn2;Pn1;"}, nil},
		{"joint keys", terms{"Pn1;", "Pn2;", "LPn3;n4;"}, terms{"WPn1;Pn2;", "WPn2;Pn1;", "WWPn1;Pn1;LPn3;n4;"}, terms{"Vn1;n2;", "WPn1;Pn3;", "WPn3;Pn1;", "n1;"}},
		{"bound keys", terms{"Pn1;", "n2;"}, terms{"LPn1;n2;", "LPn1;t0:", "LLPn1;n2;n2;", "LPn1;Pn1;"}, terms{"Kn1;n2;", "LPn1;n1;", "LPn3;n2;", "n1;"}},
		{"a joint key is no secret", terms{"WPn1;Pn2;"}, terms{"WPn1;Pn2;"}, terms{"Vn1;n2;", "Pn1;", "Pn2;"}},

		{"agreed with the first secret", terms{"n1;", "Pn2;"}, terms{"Xn1;n2;"}, terms{"n2;", "Xn2;n3;", "Xn1;n3;", "Xn2;n2;"}},
		{"agreed with the second secret", terms{"n2;", "Pn1;"}, terms{"Xn1;n2;"}, terms{"n1;", "Xn2;n3;", "Xn1;n1;"}},
		{"agreed with both secrets", terms{"n1;", "n2;"}, terms{"Xn1;n2;", "Xn1;n1;"}, terms{"Xn1;n3;"}},
		{"agreed with oneself", terms{"n1;"}, terms{"Xn1;n1;"}, nil},
		{"agreed by public keys alone", terms{"Pn1;", "Pn2;"}, nil, terms{"Xn1;n2;", "Xn1;n1;"}},
		{"agreed by one secret alone", terms{"n1;"}, nil, terms{"Xn1;n2;", "Xn0;n1;"}},
		{"agreed by the other's digest", terms{"n1;", "Hn2;", "Sn2;t0:"}, terms{"XHn2;n1;"}, terms{"Xn1;n2;"}},
		{"agreed by a joined secret", terms{"Vn2;n3;", "Pn1;"}, terms{"XVn2;n3;n1;"}, terms{"n1;"}},
		{"agreed by a bound secret", terms{"Kn2;n3;", "Pn1;"}, terms{"XKn2;n3;n1;"}, terms{"n1;"}},
		{"agreed with a joined secret's key", terms{"n1;", "WPn2;Pn3;"}, nil, terms{"XVn2;n3;n1;"}},
		{"agreed with a bound secret's key", terms{"n1;", "LPn2;n3;"}, nil, terms{"XKn2;n3;n1;"}},
		{"agreed between joined secrets", terms{"Vn1;n2;", "Vn3;n4;"}, nil, terms{"XVn1;n2;Vn3;n4;", "XVn1;n2;Vn1;n2;"}},
		{"agreed between bound secrets", terms{"n1;", "n2;"}, nil, terms{"XKn1;n2;Kn2;n1;", "XKn1;n2;Vn1;n2;"}},
		{"agreed between joined secrets, and heard", terms{"XVn1;n2;Vn3;n4;"}, terms{"XVn1;n2;Vn3;n4;"}, nil},
		{"agreed between a joined secret and its maker", terms{"n1;", "n2;"}, terms{"XVn1;n2;n1;"}, nil},
		{"agreed upon what was agreed", terms{"n1;", "Pn2;", "PXn3;n4;"}, terms{"XXn1;n2;Xn3;n4;"}, terms{"Xn3;n4;"}},
		{"agreed with a text", terms{"Pn1;"}, terms{"Xn1;t0:", "XPn1;t0:"}, terms{"Xn1;n1;"}},

		{"a tuple's parts", terms{"T3:n1;T2:n2;Hn3;T1:T1:n4;"}, terms{"n1;", "n2;", "Hn3;", "n4;", "T1:n4;", "Pn4;"}, terms{"n3;"}},
		{"a box's key is no part of it", terms{"Bn1;n2;", "n2;"}, nil, terms{"n1;", "Pn1;", "Bn1;t0:"}},
		{"a box under a text", terms{"Bt1:an1;"}, terms{"n1;"}, nil},
		{"a box under a public key", terms{"BPn1;n2;", "Pn1;"}, terms{"n2;"}, terms{"n1;"}},
		{"a box under a secret whose public key is known", terms{"Bn1;n2;", "Pn1;", "Hn1;", "PPn1;"}, nil, terms{"n2;"}},
		{"a box under another key", terms{"Bn1;n2;", "n3;"}, nil, terms{"n1;", "n2;"}},
		{"a box under a digest", terms{"BHn1;n2;", "n1;"}, terms{"n2;"}, nil},
		{"a box under an agreed secret, by the first", terms{"BXn1;n2;n3;", "n1;", "Pn2;"}, terms{"n3;"}, terms{"n2;"}},
		{"a box under an agreed secret, by the second", terms{"BXn1;n2;n3;", "Pn1;", "n2;"}, terms{"n3;"}, terms{"n1;"}},
		{"a box under an agreed secret, the key last", terms{"n1;", "BXn1;n2;n3;", "Pn2;"}, terms{"n3;"}, nil},
		{"a box under an agreed secret, by keys alone", terms{"BXn1;n2;n3;", "Pn1;", "Pn2;"}, nil, terms{"n3;"}},
		{"a box under the public key of a joined secret", terms{"BWPn1;Pn2;n3;", "Vn1;n2;"}, terms{"n3;"}, nil},
		{"a box under the public key of a bound secret, heard last", terms{"Kn1;n2;", "BLPn1;n2;n3;"}, terms{"n3;"}, nil},
		{"a box in a box", terms{"Bn1;Bn2;n3;", "n2;", "n1;"}, terms{"n3;"}, nil},
		{"a box in a box, the outer key wanting", terms{"Bn1;Bn2;n3;", "n2;"}, nil, terms{"n3;", "Bn2;n3;"}},
		{"a box in a box, the inner key wanting", terms{"Bn1;Bn2;n3;", "n1;"}, terms{"Bn2;n3;"}, terms{"n3;"}},
		{"a box that has its own key", terms{"Bn1;n1;"}, nil, terms{"n1;"}},
		{"a box with its key beside it", terms{"T2:BT2:n1;t0:n2;n1;"}, terms{"n2;"}, nil},
		{"boxes in a circle", terms{"Bn1;n2;", "Bn2;n1;"}, nil, terms{"n1;", "n2;"}},
		{"names within texts", terms{"t3:n1;", "Bn1;n2;"}, nil, terms{"n1;", "n2;"}},
	} {
		backward := slices.Clone(x.heard)
		slices.Reverse(backward)
		knows(t, heard(t, x.heard...), x.what, x.yes, x.no)
		knows(t, heard(t, backward...), x.what+", heard backward", x.yes, x.no)
	}
}

// Each key is made of what two other boxes give, and the last of them opens first.
func TestP3_3KeysOutOfBoxes(t *testing.T) {
	const n = 200
	var l terms
	for i := range n {
		a, b := name(2*i+10), name(2*i+11)
		k := "D" + a + "H" + b
		l = append(l, "B"+k+name(2*i+12), "T1:B"+k+"T1:"+name(2*i+13))
	}
	last := name(2*n + 10)
	m := heard(t, l...)
	knows(t, m, "the first keys wanting", nil, terms{"n10;", "n12;", last})
	m.Learn("n10;")
	knows(t, m, "one first key wanting", nil, terms{"n12;", last})
	m.Learn("n11;")
	knows(t, m, "all keys there", terms{"n12;", "n13;", last}, terms{"n9;"})
	slices.Reverse(l)
	knows(t, heard(t, append(l, "n11;", "n10;")...), "all keys there, heard backward", terms{"n12;", "n13;", last}, nil)
}

// More news at once than are searched for in the keys, and as many.
func TestP3_3ManyAtOnce(t *testing.T) {
	for n := 1; n <= api.MaxTuple; n++ {
		m := New()
		all := api.Term("T" + strconv.Itoa(n) + ":")
		for i := range n {
			m.Learn("B" + name(i) + name(100+i))
			m.Learn("BX" + name(100+i) + name(500+i) + name(200+i))
			m.Learn("P" + name(500+i))
			all += name(i)
		}
		knows(t, m, "keys wanting", nil, terms{name(100), name(200)})
		m.Learn(all)
		for i := range n {
			knows(t, m, "keys there", terms{name(100 + i), name(200 + i)}, terms{name(500 + i)})
		}
	}
}

func TestP3_3Limits(t *testing.T) {
	full := sized(api.MaxTerm)
	m := heard(t, "n1;", full, nest(64))
	knows(t, m, "as great as may be", terms{full, nest(64), nest(63), sized(api.MaxTerm - 1), "H" + sized(api.MaxTerm-1)},
		terms{"H" + full, "P" + full, "H" + nest(64), nest(65), "Sn1;" + full, "T1:" + nest(64)})
	// A joined secret is a right term, its public key is not.
	joined := api.Term(strings.Repeat("V", 63) + strings.Repeat("n1;", 64))
	public := api.Term(strings.Repeat("W", 63) + strings.Repeat("Pn1;", 64))
	m = heard(t, joined)
	knows(t, m, "a public key too deep", terms{joined}, terms{public, "n1;", "Pn1;", ""})
	holds(t, m, "a public key too deep", terms{joined})
	m = heard(t, joined[1:len(joined)-3])
	knows(t, m, "a public key as deep as may be", terms{public[1 : len(public)-4]}, terms{joined, public, "Pn1;"})
}

// Who asks for each part of an agreed secret more than once does not end here.
func TestP3_3AgreedInAgreed(t *testing.T) {
	deep := func(first api.Term) api.Term {
		x := first
		for range 62 {
			if y := api.Term("n2;"); x < y {
				x = "X" + x + y
			} else {
				x = "X" + y + x
			}
		}
		return x
	}
	knows(t, heard(t, "n9;"), "no secret", nil, terms{deep("n1;"), deep("n3;")})
	m := heard(t, "n2;", "B"+deep("n1;")+"n3;")
	knows(t, m, "one secret", nil, terms{deep("n1;"), "n3;", "Xn1;n2;", "n1;"})
	m.Learn("PXn1;n2;")
	knows(t, m, "one secret, and the public key of what is agreed first", terms{"XXn1;n2;n2;", deep("n1;"), "n3;"}, terms{"Xn1;n2;", "n1;"})
}

func TestP3_4Held(t *testing.T) {
	for _, x := range []struct {
		what        string
		heard, want terms
	}{
		{"nothing", nil, nil},
		{"a text", terms{"t0:"}, terms{"t0:"}},
		{"a tuple of none", terms{"T0:"}, terms{"T0:"}},
		{"rising", terms{"n9;", "n10;", "t1:a", "Hn1;", "T0:", "n1;", "t0:"}, terms{"Hn1;", "T0:", "n10;", "n1;", "n9;", "t0:", "t1:a"}},
		{"each once", terms{"T3:n1;n1;T1:n1;", "n1;", "n1;", "T1:n1;"}, terms{"T1:n1;", "T3:n1;n1;T1:n1;", "n1;"}},
		{"parts in parts", terms{"T2:T2:n1;t0:T1:T1:n2;"}, terms{"T1:T1:n2;", "T1:n2;", "T2:T2:n1;t0:T1:T1:n2;", "T2:n1;t0:", "n1;", "n2;", "t0:"}},
		{"a box that is shut", terms{"T2:Bn1;n2;n3;"}, terms{"Bn1;n2;", "T2:Bn1;n2;n3;", "n3;"}},
		{"a box and its key", terms{"T2:Bn1;n2;n3;", "n1;"}, terms{"Bn1;n2;", "T2:Bn1;n2;n3;", "n1;", "n2;", "n3;"}},
		{"a box whose key is made, not held", terms{"BHn1;n2;", "n1;"}, terms{"BHn1;n2;", "n1;", "n2;"}},
		{"a box under a text", terms{"Bt1:aT1:n2;"}, terms{"Bt1:aT1:n2;", "T1:n2;", "n2;"}},
		{"a box under an agreed secret", terms{"BXn1;n2;n3;", "n1;", "Pn2;"}, terms{"BXn1;n2;n3;", "Pn2;", "n1;", "n3;"}},
		{"a box under the public key of what was joined", terms{"BWPn1;Pn2;n3;", "Vn1;n2;"}, terms{"BWPn1;Pn2;n3;", "Vn1;n2;", "n3;"}},
		{"a box out of a box", terms{"Bn1;Bn2;n3;", "Bn4;n2;", "n1;", "n4;"}, terms{"Bn1;Bn2;n3;", "Bn2;n3;", "Bn4;n2;", "n1;", "n2;", "n3;", "n4;"}},
		{"nothing that is put together", terms{"n1;", "Pn2;"}, terms{"Pn2;", "n1;"}},
		{"no public key", terms{"Vn1;n2;", "Kn1;n2;"}, terms{"Kn1;n2;", "Vn1;n2;"}},
		{"a public key that was heard", terms{"Vn1;n2;", "WPn1;Pn2;"}, terms{"Vn1;n2;", "WPn1;Pn2;"}},
		{"a public key that was heard first", terms{"T1:LPn1;n2;", "Kn1;n2;"}, terms{"Kn1;n2;", "LPn1;n2;", "T1:LPn1;n2;"}},
		{"no part of other terms", terms{"Hn1;", "Sn1;n2;", "Dn1;n2;", "Xn1;n2;", "Pn1;", "WPn1;Pn2;", "LPn1;n2;"}, terms{"Dn1;n2;", "Hn1;", "LPn1;n2;", "Pn1;", "Sn1;n2;", "WPn1;Pn2;", "Xn1;n2;"}},
		{"no part of a tuple within another term", terms{"HT1:n1;", "Bn1;T1:n2;"}, terms{"Bn1;T1:n2;", "HT1:n1;"}},
	} {
		m := heard(t, x.heard...)
		holds(t, m, x.what, x.want)
		holds(t, m, x.what+", asked again", x.want)
		backward := slices.Clone(x.heard)
		slices.Reverse(backward)
		holds(t, heard(t, backward...), x.what+", heard backward", x.want)
	}
}

func TestP3_4NewMemory(t *testing.T) {
	said := strings.Clone("T2:n1;n2;")
	m := heard(t, api.Term(said))
	a, b := m.Held(), m.Held()
	place := func(x api.Term) *byte { return unsafe.StringData(string(x)) }
	for i := range a {
		if place(a[i]) == place(b[i]) || place(a[i]) == unsafe.StringData(said) {
			t.Errorf("%q shares its memory", a[i])
		}
	}
	for i := range a {
		a[i] = "n9;"
	}
	holds(t, m, "behind a list that was changed", terms{"T2:n1;n2;", "n1;", "n2;"})
	knows(t, m, "behind a list that was changed", nil, terms{"n9;"})
}

func TestP3_5Copy(t *testing.T) {
	m := heard(t, "Bn1;n2;", "T1:n3;", "Vn7;n8;")
	c := m.Copy()
	d := c.Copy()
	for _, x := range []*Mind{c, d} {
		holds(t, x, "a copy", m.Held())
		knows(t, x, "a copy", terms{"n3;", "WPn7;Pn8;"}, terms{"n1;", "n2;"})
	}
	c.Learn("n1;")
	m.Learn("n4;")
	knows(t, m, "the first", terms{"n4;"}, terms{"n1;", "n2;"})
	knows(t, c, "the copy", terms{"n1;", "n2;"}, terms{"n4;"})
	knows(t, d, "the copy's copy", terms{"n3;"}, terms{"n1;", "n2;", "n4;"})
	holds(t, m, "the first", terms{"Bn1;n2;", "T1:n3;", "Vn7;n8;", "n3;", "n4;"})
	holds(t, c, "the copy", terms{"Bn1;n2;", "T1:n3;", "Vn7;n8;", "n1;", "n2;", "n3;"})
	m.Learn("n1;")
	d.Learn("T1:n1;")
	knows(t, m, "the first, which hears the key too", terms{"n2;"}, nil)
	knows(t, d, "the copy's copy, which hears the key too", terms{"n2;"}, nil)
	holds(t, c, "the copy, by itself", terms{"Bn1;n2;", "T1:n3;", "Vn7;n8;", "n1;", "n2;", "n3;"})
}

// Minds of one origin hear up to their limit, each by itself.
func TestP3_5CopyCounts(t *testing.T) {
	m := New()
	for i := range 1023 {
		m.Learn(name(i))
	}
	c := m.Copy()
	if e, f := c.Learn("n2000;"), c.Learn("n2001;"); e != api.OK || f != api.ErrLimit {
		t.Errorf("the copy: %d, %d", e, f)
	}
	if e, f := m.Learn("n2001;"), m.Learn("n2000;"); e != api.OK || f != api.ErrLimit {
		t.Errorf("the first: %d, %d", e, f)
	}
}

// maker makes terms by chance.
type maker struct{ *rand.Rand }

func (r maker) of(deep int) api.Term {
	for {
		if x, e := r.try(deep); e == api.OK {
			return x
		}
	}
}

func (r maker) try(deep int) (api.Term, api.Errno) {
	if deep <= 1 || r.Intn(6) == 0 {
		if r.Intn(7) == 0 {
			return "t0:", api.OK
		}
		return term.Name(int64(r.Intn(5)))
	}
	a, b := r.of(deep-1), r.of(deep-1)
	switch r.Intn(15) {
	case 0:
		return term.Tuple(a)
	case 1, 2:
		return term.Tuple(a, b)
	case 3:
		return term.Hash(a)
	case 4:
		return term.Sign(a, b)
	case 5:
		return term.Child(a, b)
	case 6:
		return term.Join(a, b)
	case 7:
		return term.Bind(a, b)
	case 8:
		return term.Pub(a)
	case 9:
		p, _ := term.Pub(a)
		q, _ := term.Pub(b)
		return term.Joint(p, q)
	case 10:
		p, _ := term.Pub(a)
		return term.Bound(p, b)
	case 11:
		p, _ := term.Pub(b)
		return term.Agree(a, p)
	}
	return term.Box(a, b)
}

// within puts a term and all that stands in it into set, with their public keys.
func within(set map[api.Term]int, x api.Term) {
	if _, there := set[x]; there {
		return
	}
	set[x] = 0
	p, _ := term.Open(x)
	for _, k := range p.Kids {
		within(set, k)
	}
	if k, e := term.Pub(x); e == api.OK && len(k) < 40 && strings.Count(string(k), "P") < 4 {
		within(set, k)
	}
}

// byRules marks those of the set that can be made of l, by the chapter's rules as they are written there.
func byRules(set map[api.Term]int, l terms) {
	for _, x := range l {
		set[x] = 1
	}
	for changed := true; changed; {
		changed = false
		mark := func(x api.Term) {
			if v, there := set[x]; there && v == 0 {
				set[x] = 1
				changed = true
			}
		}
		for x := range set {
			p, _ := term.Open(x)
			if set[x] == 1 {
				k, _ := term.Pub(x)
				mark(k)
				if p.Op == api.OpTuple {
					for _, k := range p.Kids {
						mark(k)
					}
				}
				if p.Op == api.OpBox && set[p.Kids[0]] == 1 {
					mark(p.Kids[1])
				}
			}
			all := true
			for _, k := range p.Kids {
				all = all && set[k] == 1
			}
			switch p.Op {
			case api.OpName:
			case api.OpAgree:
				a, b := p.Kids[0], p.Kids[1]
				if set[a] == 1 && set["P"+b] == 1 || set[b] == 1 && set["P"+a] == 1 {
					mark(x)
				}
			default:
				if all {
					mark(x)
				}
			}
		}
	}
}

// apart is what the set's marks say that is held of l.
func apart(set map[api.Term]int, l terms) terms {
	held := map[api.Term]int{}
	for todo := slices.Clone(l); len(todo) > 0; {
		x := todo[0]
		todo = todo[1:]
		if _, there := held[x]; there {
			continue
		}
		held[x] = 1
		p, _ := term.Open(x)
		if p.Op == api.OpTuple {
			todo = append(todo, p.Kids...)
		}
		if p.Op == api.OpBox && set[p.Kids[0]] == 1 {
			todo = append(todo, p.Kids[1])
		}
	}
	var out terms
	for x := range held {
		out = append(out, x)
	}
	slices.Sort(out)
	return out
}

func TestP3_3And4LikeTheRules(t *testing.T) {
	r := maker{rand.New(rand.NewSource(3))}
	opened, known, unknown := 0, 0, 0
	for range 1500 {
		set := map[api.Term]int{}
		var l terms
		for range 1 + r.Intn(12) {
			l = append(l, r.of(1+r.Intn(4)))
			within(set, l[len(l)-1])
		}
		for range 8 {
			within(set, r.of(1+r.Intn(4)))
		}
		byRules(set, l)
		m := heard(t, l...)
		for x, v := range set {
			if m.Knows(x) != (v == 1) {
				t.Fatalf("heard %q: Knows(%q) is %t", l, x, m.Knows(x))
			}
			if v == 1 {
				known++
			} else {
				unknown++
			}
		}
		want := apart(set, l)
		holds(t, m, "by the rules", want)
		for _, x := range want {
			if p, _ := term.Open(x); p.Op == api.OpBox && set[p.Kids[0]] == 1 {
				opened++
			}
		}
	}
	if opened < 300 || known < 3000 || unknown < 3000 {
		t.Errorf("only %d boxes opened, %d known, %d unknown", opened, known, unknown)
	}
}

func TestP3_6MoreKnowsNoLess(t *testing.T) {
	r := maker{rand.New(rand.NewSource(6))}
	for range 300 {
		set := map[api.Term]int{}
		for range 20 {
			within(set, r.of(1+r.Intn(4)))
		}
		m := New()
		for range 10 {
			before := m.Copy()
			m.Learn(r.of(1 + r.Intn(4)))
			for x := range set {
				if before.Knows(x) && !m.Knows(x) {
					t.Fatalf("%q is known of %q, not of %q", x, before.Held(), m.Held())
				}
			}
			for _, x := range before.Held() {
				if !slices.Contains(m.Held(), x) {
					t.Fatalf("%q is held no more", x)
				}
			}
		}
	}
}

func TestP3_6MadeOfKnownIsKnown(t *testing.T) {
	r := maker{rand.New(rand.NewSource(36))}
	for range 300 {
		m := New()
		for range 1 + r.Intn(8) {
			m.Learn(r.of(1 + r.Intn(4)))
		}
		l := append(m.Held(), "t0:")
		made := func(x api.Term, e api.Errno) {
			if e == api.OK && !m.Knows(x) {
				t.Fatalf("%q is made of what %q make, and not known", x, l)
			}
			if e == api.OK && len(x) < 200 {
				l = append(l, x)
			}
		}
		for range 30 {
			a, b := l[r.Intn(len(l))], l[r.Intn(len(l))]
			p, e := term.Pub(a)
			made(p, e)
			q, e := term.Pub(b)
			made(q, e)
			made(term.Tuple(a, b))
			made(term.Hash(a))
			made(term.Child(a, b))
			made(term.Join(a, b))
			made(term.Bind(a, b))
			made(term.Sign(a, b))
			made(term.Box(a, b))
			made(term.Joint(a, b))
			made(term.Bound(a, b))
			made(term.Agree(a, b))
			if parts, _ := term.Open(b); parts.Op == api.OpBox && m.Knows(parts.Kids[0]) {
				made(parts.Kids[1], api.OK)
			}
		}
	}
}

func TestP3_6SecretsStaySecret(t *testing.T) {
	r := maker{rand.New(rand.NewSource(63))}
	for range 300 {
		m := New()
		for range 1 + r.Intn(12) {
			m.Learn(r.of(1 + r.Intn(4)))
		}
		knows(t, m, "a name that was never heard of", nil, terms{"n77;", "Pn77;", "Hn77;", "Xn0;n77;", "T1:n77;"})
		m.Learn("BDn77;t0:T2:n78;n0;")
		m.Learn("T2:Pn77;Hn77;")
		m.Learn("Sn77;n0;")
		knows(t, m, "a box whose key can't be made", terms{"BDn77;t0:T2:n78;n0;"}, terms{"n77;", "n78;", "T2:n78;n0;", "Pn78;"})
		m.Learn("Dn77;t0:")
		knows(t, m, "a box whose key was heard", terms{"n78;", "n0;"}, terms{"n77;"})
	}
}

// Answers hang on nothing but what was heard: not on the order of a map.
func TestSameEachTime(t *testing.T) {
	r := maker{rand.New(rand.NewSource(9))}
	for range 50 {
		var l terms
		for range 20 {
			l = append(l, r.of(1+r.Intn(5)))
		}
		want := heard(t, l...).Held()
		for range 5 {
			holds(t, heard(t, l...), "heard again", want)
		}
		r.Shuffle(len(l), func(i, j int) { l[i], l[j] = l[j], l[i] })
		holds(t, heard(t, l...), "heard in another order", want)
	}
}

// As much as a mind takes in: it ends soon all the same.
func TestFullMind(t *testing.T) {
	chain, frames := New(), New()
	for i := range 1023 {
		chain.Learn("B" + name(1023-i) + "T2:" + name(1024-i) + sized(16000))
		frames.Learn("BDX" + name(1000000) + name(2000000) + name(i) + sized(16000))
	}
	knows(t, chain, "the key wanting", nil, terms{"n2;", "n1024;"})
	chain.Learn("n1;")
	knows(t, chain, "the key there", terms{"n2;", "n1024;"}, terms{"n1025;"})
	if l := frames.Held(); len(l) != 1023 {
		t.Errorf("%d held", len(l))
	}
}
