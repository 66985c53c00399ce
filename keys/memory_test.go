package keys

import (
	"cmp"
	"slices"
	"testing"
	"unsafe"

	"sluiceway/api"
)

// A borrower hands out terms whose bytes it changes later.
type borrower struct{ lent [][]byte }

func (b *borrower) term(x api.Term) api.Term {
	if x == "" {
		return ""
	}
	l := []byte(x)
	b.lent = append(b.lent, l)
	return api.Term(unsafe.String(&l[0], len(l)))
}

func (b *borrower) secrets(s api.Secrets) api.Secrets {
	return api.Secrets{Fund: b.term(s.Fund), Rev: b.term(s.Rev), Pay: b.term(s.Pay), Later: b.term(s.Later), Htlc: b.term(s.Htlc), Seed: b.term(s.Seed)}
}

func (b *borrower) keys(k api.Keys) api.Keys {
	return api.Keys{Fund: b.term(k.Fund), Rev: b.term(k.Rev), Pay: b.term(k.Pay), Later: b.term(k.Later), Htlc: b.term(k.Htlc)}
}

// spoil changes all that was handed out.
func (b *borrower) spoil() {
	for _, l := range b.lent {
		for i := range l {
			l[i] = '?'
		}
	}
}

// all are what was handed out, as terms.
func (b *borrower) all() []api.Term {
	var out []api.Term
	for _, l := range b.lent {
		out = append(out, api.Term(unsafe.String(&l[0], len(l))))
	}
	return out
}

// apart asks that none of these texts share memory. (They are held as texts, so that none of their memory is given out anew meanwhile.)
func apart(t *testing.T, l []api.Term) {
	t.Helper()
	start := func(x api.Term) uintptr { return uintptr(unsafe.Pointer(unsafe.StringData(string(x)))) }
	slices.SortFunc(l, func(a, b api.Term) int { return cmp.Compare(start(a), start(b)) })
	for i := 1; i < len(l); i++ {
		if start(l[i-1])+uintptr(len(l[i-1])) > start(l[i]) {
			t.Fatalf("%.60q and %.60q share memory", l[i-1], l[i])
		}
	}
}

// A use calls something with what a borrower hands out, asks that this stays as it was, and answers what was made.
type use func(t *testing.T, b *borrower) []api.Term

func termsOf(s api.Secrets) []api.Term {
	return []api.Term{s.Fund, s.Rev, s.Pay, s.Later, s.Htlc, s.Seed}
}

// lasts asks twice for what a use makes: nothing of it shares memory with anything else, and it stays when what was handed in changes.
func lasts(t *testing.T, u use, want ...api.Term) {
	t.Helper()
	var b borrower
	x := u(t, &b)
	y := u(t, &b)
	apart(t, slices.Concat(x, y, b.all()))
	b.spoil()
	if !slices.Equal(x, want) || !slices.Equal(y, want) {
		t.Fatalf("once what was handed in has changed: %.400q and %.400q, want %.400q", x, y, want)
	}
}

// fromRoot is a use of a call that makes one term of a root.
func fromRoot(call func(api.Term) (api.Term, api.Errno)) use {
	return func(t *testing.T, b *borrower) []api.Term {
		root := b.term("n1;")
		x, e := call(root)
		is(t, "the error", e, api.OK)
		is(t, "the root", root, "n1;")
		return []api.Term{x}
	}
}

func TestP16_1NewMemory(t *testing.T) {
	lasts(t, fromRoot(Node), "Dn1;T2:t4:nodet1:0")
	for _, n := range []int64{0, 12, 1 << 40} {
		lasts(t, fromRoot(func(root api.Term) (api.Term, api.Errno) { return Coin(root, n) }), kid("n1;", "coin", digits(n)))
	}
}

func TestP16_2NewMemory(t *testing.T) {
	for _, n := range []int64{0, 12, 1 << 40} {
		channel := func(t *testing.T, b *borrower) []api.Term {
			root := b.term("n1;")
			s, e := Channel(root, n)
			is(t, "the error", e, api.OK)
			is(t, "the root", root, "n1;")
			return termsOf(s)
		}
		lasts(t, channel, termsOf(secretsOf(kid("n1;", "channel", digits(n))))...)
	}
	given := api.Secrets{Fund: "n1;", Rev: "Vn1;n2;", Pay: "Kn1;n2;", Later: "t0:", Htlc: "Pn1;", Seed: "n"}
	public := func(t *testing.T, b *borrower) []api.Term {
		s := b.secrets(given)
		k, e := Public(s)
		is(t, "the error", e, api.OK)
		is(t, "the secrets", s, given)
		return []api.Term{k.Fund, k.Rev, k.Pay, k.Later, k.Htlc}
	}
	lasts(t, public, "Pn1;", "WPn1;Pn2;", "LPn1;n2;", "Pt0:", "PPn1;")
}

// TestP16_3NewMemory: for Top, where the secret is the seed, too.
func TestP16_3NewMemory(t *testing.T) {
	given := api.Secrets{Fund: "n1;", Rev: "n2;", Pay: "n3;", Later: "n4;", Htlc: "n5;", Seed: "n7;"}
	for n, secret := range of7() {
		for _, x := range []struct {
			call func(api.Secrets, int64) (api.Term, api.Errno)
			want api.Term
		}{{Reveal, secret}, {Point, "P" + secret}} {
			lasts(t, func(t *testing.T, b *borrower) []api.Term {
				s := b.secrets(given)
				made, e := x.call(s, n)
				is(t, "the error", e, api.OK)
				is(t, "the secrets", s, given)
				return []api.Term{made}
			}, x.want)
		}
	}
}

// TestP16_4NewMemory: with Pay, of which nothing is made; and with one key at all places.
func TestP16_4NewMemory(t *testing.T) {
	alike := api.Keys{Fund: "WPn1;Pn2;", Rev: "WPn1;Pn2;", Pay: "WPn1;Pn2;", Later: "WPn1;Pn2;", Htlc: "WPn1;Pn2;"}
	for _, x := range []struct {
		setCall
		api.KeySet
	}{
		{plain(), plainSet},
		{setCall{alike, alike, "WPn1;Pn2;"}, api.KeySet{Rev: "WWPn1;Pn2;WPn1;Pn2;", Later: "LWPn1;Pn2;WPn1;Pn2;", Mine: "LWPn1;Pn2;WPn1;Pn2;", Theirs: "LWPn1;Pn2;WPn1;Pn2;", Pay: "WPn1;Pn2;"}},
	} {
		lasts(t, func(t *testing.T, b *borrower) []api.Term {
			c := setCall{b.keys(x.own), b.keys(x.other), b.term(x.point)}
			set, e := Set(c.own, c.other, c.point)
			is(t, "the error", e, api.OK)
			is(t, "what was handed in", c, x.setCall)
			return []api.Term{set.Rev, set.Later, set.Mine, set.Theirs, set.Pay}
		}, x.Rev, x.Later, x.Mine, x.Theirs, x.Pay)
	}
}

// TestP16_4OneKeyInAll: the same memory handed in at all places comes back as memory apart.
func TestP16_4OneKeyInAll(t *testing.T) {
	lasts(t, func(t *testing.T, b *borrower) []api.Term {
		k := b.term("Pn1;")
		all := api.Keys{Fund: k, Rev: k, Pay: k, Later: k, Htlc: k}
		set, e := Set(all, all, k)
		is(t, "the error", e, api.OK)
		is(t, "the key", k, "Pn1;")
		return []api.Term{set.Rev, set.Later, set.Mine, set.Theirs, set.Pay}
	}, "WPn1;Pn1;", "LPn1;Pn1;", "LPn1;Pn1;", "LPn1;Pn1;", "Pn1;")
}

func TestP16_5NewMemory(t *testing.T) {
	for _, x := range []struct {
		call func(a, b api.Term) (api.Term, api.Errno)
		want api.Term
	}{{Bind, "Kn1;Pn2;"}, {Revoke, "Vn1;Pn2;"}} {
		lasts(t, func(t *testing.T, b *borrower) []api.Term {
			secret, point := b.term("n1;"), b.term("Pn2;")
			made, e := x.call(secret, point)
			is(t, "the error", e, api.OK)
			is(t, "the secret", secret, "n1;")
			is(t, "the point", point, "Pn2;")
			return []api.Term{made}
		}, x.want)
	}
}

// TestP16_2RefusedStays: what is handed in stays as it was where it is refused, too.
func TestP16_2RefusedStays(t *testing.T) {
	for _, x := range slices.Concat(wrong(), []api.Term{nest(63), nest(64), sized(16384)}) {
		var b borrower
		given := api.Secrets{Fund: "n1;", Rev: "n2;", Pay: x, Later: "n4;", Htlc: "n5;", Seed: x}
		s := b.secrets(given)
		Public(s)
		Reveal(s, 0)
		Point(s, 0)
		Bind(s.Pay, s.Seed)
		Revoke(s.Pay, s.Seed)
		Node(s.Pay)
		Coin(s.Pay, 1)
		Channel(s.Pay, 1)
		is(t, "the secrets", s, given)
		c := plain()
		c.other.Pay, c.point = x, x
		k := setCall{b.keys(c.own), b.keys(c.other), b.term(x)}
		Set(k.own, k.other, k.point)
		is(t, "the keys", k, c)
	}
}
