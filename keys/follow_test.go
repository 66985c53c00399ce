package keys

import (
	"testing"

	"sluiceway/api"
	"sluiceway/deduce"
	"sluiceway/term"
)

// A side is what one of both has in a channel.
type side struct {
	secrets api.Secrets
	keys    api.Keys
}

func newSide(t *testing.T, root api.Term, n int64) side {
	t.Helper()
	s, e := Channel(root, n)
	is(t, "Channel", e, api.OK)
	k, e := Public(s)
	is(t, "Public", e, api.OK)
	return side{s, k}
}

func (s side) point(t *testing.T, n int64) api.Term {
	t.Helper()
	p, e := Point(s.secrets, n)
	is(t, "Point", e, api.OK)
	return p
}

func (s side) reveal(t *testing.T, n int64) api.Term {
	t.Helper()
	x, e := Reveal(s.secrets, n)
	is(t, "Reveal", e, api.OK)
	return x
}

// set is the keys of this side's commitment.
func (s side) set(t *testing.T, other side, n int64) api.KeySet {
	t.Helper()
	set, e := Set(s.keys, other.keys, s.point(t, n))
	is(t, "Set", e, api.OK)
	return set
}

// A drawing is what both sides' secrets come from: each side's root, and the channel's number with it.
type drawing struct {
	a, b   api.Term
	na, nb int64
}

func drawings() []drawing {
	return []drawing{
		{"n1;", "n2;", 0, 0},
		{"n1;", "n2;", 7, 1 << 40},
		{"Dn1;T2:t4:nodet1:0", "n1000;", 3, 3},
		{"Vn1;n3;", "Kn2;Pn4;", 1, 2},
		{"n1;", "n1;", 1, 2},
		{"Bn1;t0:", "T2:n2;n3;", 0, 0},
		{nest(39), "n2;", 0, 5},
	}
}

func (d drawing) sides(t *testing.T) (side, side) {
	t.Helper()
	return newSide(t, d.a, d.na), newSide(t, d.b, d.nb)
}

// numbers are those of some commitments.
func numbers() []int64 {
	return []int64{0, 1, 2, 3, 4, 5, 511, 512, 1 << 19, 1<<19 - 1, api.Top - 1, api.Top}
}

// belongs asks that a secret was made, and that the public key is its own.
func belongs(t *testing.T, what string, secret api.Term, e api.Errno, public api.Term) {
	t.Helper()
	is(t, what, e, api.OK)
	p, e := term.Pub(secret)
	is(t, "the public key of "+what, e, api.OK)
	is(t, "the public key of "+what, p, public)
}

// secretsIn are the secrets of a commitment's public keys.
type secretsIn struct{ rev, later, mine, theirs, pay api.Term }

// madeBySides makes each of them by what that side has that is to make it.
func madeBySides(t *testing.T, own, other side, n int64) secretsIn {
	t.Helper()
	var s secretsIn
	var e api.Errno
	set, point := own.set(t, other, n), own.point(t, n)
	s.later, e = Bind(own.secrets.Later, point)
	belongs(t, "Later", s.later, e, set.Later)
	s.mine, e = Bind(own.secrets.Htlc, point)
	belongs(t, "Mine", s.mine, e, set.Mine)
	s.theirs, e = Bind(other.secrets.Htlc, point)
	belongs(t, "Theirs", s.theirs, e, set.Theirs)
	s.pay = other.secrets.Pay
	belongs(t, "Pay", s.pay, api.OK, set.Pay)
	s.rev, e = Revoke(other.secrets.Rev, own.reveal(t, n))
	belongs(t, "Rev", s.rev, e, set.Rev)
	return s
}

// TestP16_6SidesMake: both sides' commitments. What the sides make signs for the public keys in the Set.
func TestP16_6SidesMake(t *testing.T) {
	for _, d := range drawings() {
		a, b := d.sides(t)
		for _, n := range numbers() {
			for _, x := range [][2]side{{a, b}, {b, a}} {
				set, s := x[0].set(t, x[1], n), madeBySides(t, x[0], x[1], n)
				for secret, key := range map[api.Term]api.Term{s.rev: set.Rev, s.later: set.Later, s.mine: set.Mine, s.theirs: set.Theirs, s.pay: set.Pay} {
					sig, e := term.Sign(secret, "t1:m")
					is(t, "Sign", e, api.OK)
					is(t, "Verify", term.Verify(key, "t1:m", sig), true)
				}
			}
		}
	}
}

// TestP16_6KeysOfSides: the Keys are those of the Secrets, each one.
func TestP16_6KeysOfSides(t *testing.T) {
	for _, d := range drawings() {
		a, _ := d.sides(t)
		for i, to := range five(&a.secrets) {
			belongs(t, "a secret", *to, api.OK, [5]api.Term{a.keys.Fund, a.keys.Rev, a.keys.Pay, a.keys.Later, a.keys.Htlc}[i])
		}
		for _, n := range numbers() {
			belongs(t, "a commitment's secret", a.reveal(t, n), api.OK, a.point(t, n))
		}
	}
}

// A mind that has heard some terms.
func hears(t *testing.T, m *deduce.Mind, l ...api.Term) {
	t.Helper()
	for _, x := range l {
		is(t, "Learn", m.Learn(x), api.OK)
	}
}

// public is a mind that has heard all public keys of both sides, and all their points of some commitments.
func public(t *testing.T, a, b side) *deduce.Mind {
	t.Helper()
	m := deduce.New()
	for _, s := range []side{a, b} {
		hears(t, m, s.keys.Fund, s.keys.Rev, s.keys.Pay, s.keys.Later, s.keys.Htlc)
		for _, n := range numbers() {
			hears(t, m, s.point(t, n))
		}
	}
	return m
}

// knows asks which of the secrets of a commitment a mind can make.
func knows(t *testing.T, m *deduce.Mind, s, want secretsIn) {
	t.Helper()
	for _, x := range []struct {
		what         string
		secret, want api.Term
	}{{"Rev", s.rev, want.rev}, {"Later", s.later, want.later}, {"Mine", s.mine, want.mine}, {"Theirs", s.theirs, want.theirs}, {"Pay", s.pay, want.pay}} {
		is(t, x.what+" can be made", m.Knows(x.secret), x.want != "")
	}
}

// TestP16_6NobodyElse: of public keys and points alone none of these secrets is made; nor are those that the sides make them of.
func TestP16_6NobodyElse(t *testing.T) {
	for _, d := range drawings() {
		a, b := d.sides(t)
		m := public(t, a, b)
		for _, n := range numbers() {
			for _, x := range [][2]side{{a, b}, {b, a}} {
				knows(t, m, madeBySides(t, x[0], x[1], n), secretsIn{})
				set := x[0].set(t, x[1], n)
				for _, k := range []api.Term{set.Rev, set.Later, set.Mine, set.Theirs, set.Pay} {
					is(t, "a public key can be made", m.Knows(k), true)
				}
				is(t, "a commitment's secret can be made", m.Knows(x[0].reveal(t, n)), false)
			}
		}
		for _, x := range append(termsOf(a.secrets), termsOf(b.secrets)...) {
			is(t, "a channel's secret can be made", m.Knows(x), false)
		}
	}
}

// TestP16_6OneSide: who has all that one side has, but of the other side nothing, makes just that side's own.
func TestP16_6OneSide(t *testing.T) {
	for _, d := range drawings()[:4] {
		a, b := d.sides(t)
		for _, x := range [][2]side{{a, b}, {b, a}} {
			own, other := x[0], x[1]
			for _, n := range numbers() {
				s := madeBySides(t, own, other, n)
				m := public(t, a, b)
				hears(t, m, termsOf(own.secrets)...)
				knows(t, m, s, secretsIn{later: s.later, mine: s.mine})
				m = public(t, a, b)
				hears(t, m, termsOf(other.secrets)...)
				knows(t, m, s, secretsIn{theirs: s.theirs, pay: s.pay})
			}
		}
	}
}

// TestP16_6Revoked: of Rev alone nothing, of the commitment's secret alone nothing, but both make Rev's secret; that of one commitment is no help with the next.
func TestP16_6Revoked(t *testing.T) {
	for _, d := range drawings() {
		a, b := d.sides(t)
		for _, n := range numbers() {
			s := madeBySides(t, a, b, n)
			m := public(t, a, b)
			hears(t, m, a.reveal(t, n))
			knows(t, m, s, secretsIn{})
			hears(t, m, b.secrets.Rev)
			knows(t, m, s, secretsIn{rev: s.rev})
			m = public(t, a, b)
			hears(t, m, b.secrets.Rev)
			knows(t, m, s, secretsIn{})
			if n == api.Top {
				continue
			}
			hears(t, m, a.reveal(t, n))
			is(t, "what comes later can be made", m.Knows(madeBySides(t, a, b, n+1).rev), false)
			is(t, "what comes later can be made", m.Knows(a.reveal(t, n+1)), false)
			is(t, "what comes later can be made", m.Knows(a.reveal(t, api.Top)), false)
		}
	}
}

// TestP16_6AllRevoked: who has heard the secrets of all commitments up to one makes Rev of each of them with its own, and of none behind them.
func TestP16_6AllRevoked(t *testing.T) {
	a, b := newSide(t, "n1;", 4), newSide(t, "n2;", 4)
	m := public(t, a, b)
	hears(t, m, b.secrets.Rev)
	for n := range int64(40) {
		hears(t, m, a.reveal(t, n))
		for k := range int64(45) {
			s, e := Revoke(b.secrets.Rev, a.reveal(t, k))
			is(t, "Revoke", e, api.OK)
			is(t, "Rev can be made", m.Knows(s), k <= n)
		}
	}
}

// TestP16_6ChannelsApart: who has all of one channel's secrets, and of the node's key and coins, makes none of another channel's.
func TestP16_6ChannelsApart(t *testing.T) {
	m := deduce.New()
	for n := range int64(6) {
		node, e := Node("n1;")
		is(t, "Node", e, api.OK)
		coin, e := Coin("n1;", n)
		is(t, "Coin", e, api.OK)
		hears(t, m, node, coin)
		s := newSide(t, "n1;", n).secrets
		for _, x := range termsOf(s) {
			is(t, "another channel's secret can be made", m.Knows(x), false)
			hears(t, m, x)
		}
	}
}
