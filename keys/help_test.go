package keys

import (
	"math"
	"strconv"
	"strings"
	"testing"

	"sluiceway/api"
)

// is asks for one answer.
func is[T comparable](t *testing.T, what string, have, want T) {
	t.Helper()
	if have != want {
		t.Fatalf("%s: %.400v, want %.400v", what, have, want)
	}
}

// makes asks a call for one answer.
func makes[T comparable](t *testing.T, what string, call func() (T, api.Errno), want T, wantE api.Errno) {
	t.Helper()
	if x, e := call(); x != want || e != wantE {
		t.Fatalf("%s: %.400v, %d, want %.400v, %d", what, x, e, want, wantE)
	}
}

func isNode(t *testing.T, root, want api.Term, wantE api.Errno) {
	t.Helper()
	makes(t, "Node of "+short(root), func() (api.Term, api.Errno) { return Node(root) }, want, wantE)
}

func isCoin(t *testing.T, root api.Term, n int64, want api.Term, wantE api.Errno) {
	t.Helper()
	makes(t, "Coin of "+short(root)+" and "+digits(n), func() (api.Term, api.Errno) { return Coin(root, n) }, want, wantE)
}

func isChannel(t *testing.T, root api.Term, n int64, want api.Secrets, wantE api.Errno) {
	t.Helper()
	makes(t, "Channel of "+short(root)+" and "+digits(n), func() (api.Secrets, api.Errno) { return Channel(root, n) }, want, wantE)
}

func isPublic(t *testing.T, s api.Secrets, want api.Keys, wantE api.Errno) {
	t.Helper()
	makes(t, "Public", func() (api.Keys, api.Errno) { return Public(s) }, want, wantE)
}

func isReveal(t *testing.T, s api.Secrets, n int64, want api.Term, wantE api.Errno) {
	t.Helper()
	makes(t, "Reveal of "+short(s.Seed)+" and "+digits(n), func() (api.Term, api.Errno) { return Reveal(s, n) }, want, wantE)
}

func isPoint(t *testing.T, s api.Secrets, n int64, want api.Term, wantE api.Errno) {
	t.Helper()
	makes(t, "Point of "+short(s.Seed)+" and "+digits(n), func() (api.Term, api.Errno) { return Point(s, n) }, want, wantE)
}

func isBind(t *testing.T, a, b, want api.Term, wantE api.Errno) {
	t.Helper()
	makes(t, "Bind of "+short(a)+" and "+short(b), func() (api.Term, api.Errno) { return Bind(a, b) }, want, wantE)
}

func isRevoke(t *testing.T, a, b, want api.Term, wantE api.Errno) {
	t.Helper()
	makes(t, "Revoke of "+short(a)+" and "+short(b), func() (api.Term, api.Errno) { return Revoke(a, b) }, want, wantE)
}

// A setCall is what Set was given.
type setCall struct {
	own, other api.Keys
	point      api.Term
}

func (c setCall) is(t *testing.T, want api.KeySet, wantE api.Errno) {
	t.Helper()
	makes(t, "Set", func() (api.KeySet, api.Errno) { return Set(c.own, c.other, c.point) }, want, wantE)
}

func short(x api.Term) string { return strconv.Quote(string(x[:min(len(x), 60)])) }

func digits(n int64) string { return strconv.FormatInt(n, 10) }

// nest is a term that is n deep.
func nest(n int) api.Term { return under(n-1, "H", "n1;") }

// under is a term under n times that op.
func under(n int, op string, x api.Term) api.Term {
	return api.Term(strings.Repeat(op, n)) + x
}

// sized is a term of n bytes, for n from 12400 to 16400.
func sized(n int) api.Term {
	full := text(api.MaxText)
	rest := n - len("T4:") - 3*len(full)
	for k := rest; k >= 0; k-- {
		if last := text(k); len(last) == rest {
			return "T4:" + full + full + full + last
		}
	}
	return ""
}

func text(n int) api.Term { return word(strings.Repeat("x", n)) }

// word is a text, written by hand.
func word(s string) api.Term { return api.Term("t" + strconv.Itoa(len(s)) + ":" + s) }

// kid is a child for a word and a number, written by hand.
func kid(root api.Term, w, number string) api.Term {
	return "D" + root + "T2:" + word(w) + word(number)
}

// wrong are no right terms.
func wrong() []api.Term {
	return []api.Term{"", "n", "n7", "n07;", "n7;n7;", "n9223372036854775808;", " n7;", "t3:ab", "T1:", "D", "Dn7;", "P", "W", "WPn1;", "L", "LPn1;", "q", "\xff", "\x00", "PVn1;n2;", "PKn1;n2;", "Xn9;n10;", "Wn1;Pn2;", "WPn1;n2;", "Ln1;Pn2;", "Pn1;Pn2;", nest(65), "P" + nest(64), sized(api.MaxTerm + 1), text(api.MaxText + 1)}
}

// A pair is a secret and its public key.
type pair struct{ secret, public api.Term }

// pairs are right terms of each form, with their public keys written out.
func pairs() []pair {
	return []pair{
		{"n1;", "Pn1;"},
		{"n9223372036854775807;", "Pn9223372036854775807;"},
		{"t0:", "Pt0:"},
		{"t3:n1;", "Pt3:n1;"},
		{"T0:", "PT0:"},
		{"T2:n1;n2;", "PT2:n1;n2;"},
		{"Pn1;", "PPn1;"},
		{"Hn1;", "PHn1;"},
		{"Sn1;n2;", "PSn1;n2;"},
		{"Bn1;t2:\x00\xff", "PBn1;t2:\x00\xff"},
		{"Xn1;n2;", "PXn1;n2;"},
		{"Dn1;t1:0", "PDn1;t1:0"},
		{"Vn1;n2;", "WPn1;Pn2;"},
		{"WPn1;Pn2;", "PWPn1;Pn2;"},
		{"Kn1;n2;", "LPn1;n2;"},
		{"LPn1;n2;", "PLPn1;n2;"},
		{"VVn1;n2;Kn3;t1:x", "WWPn1;Pn2;LPn3;t1:x"},
		{"KVn1;n2;Pn3;", "LWPn1;Pn2;Pn3;"},
		{"DVn1;n2;Kn3;n4;", "PDVn1;n2;Kn3;n4;"},
	}
}

// unpublic are right terms that are no public keys: secrets of each form, the deepest and the longest ones among them.
func unpublic() []api.Term {
	l := []api.Term{nest(64), sized(api.MaxTerm), text(api.MaxText)}
	for _, p := range pairs() {
		if op := p.secret[0]; op != 'P' && op != 'W' && op != 'L' {
			l = append(l, p.secret)
		}
	}
	return l
}

// strange are numbers below 0.
func strange() []int64 {
	return []int64{-1, -2, -api.Top, -api.Top - 1, math.MinInt64, math.MinInt64 + 1, math.MinInt64 + api.Top, math.MinInt64 + api.Top + 1}
}
