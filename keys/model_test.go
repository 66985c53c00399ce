package keys

import (
	"math"
	"math/rand"
	"strconv"
	"strings"
	"testing"

	"sluiceway/api"
	"sluiceway/term"
)

// bySteps is the secret of a commitment, written by hand: a step for each bit of its place that is 1.
func bySteps(seed api.Term, n int64) api.Term {
	x := seed
	for b := 19; b >= 0; b-- {
		if (api.Top-n)/(1<<b)%2 == 1 {
			x = "D" + x + word(strconv.Itoa(b))
		}
	}
	return x
}

// first is the right term that x begins with.
func first(x api.Term) api.Term {
	for n := 1; n <= len(x); n++ {
		if term.Right(x[:n]) {
			return x[:n]
		}
	}
	return ""
}

// publicOf is the public key of a right term, by its form.
func publicOf(x api.Term) api.Term {
	switch {
	case strings.HasPrefix(string(x), "V"):
		a := first(x[1:])
		return "W" + publicOf(a) + publicOf(x[1+len(a):])
	case strings.HasPrefix(string(x), "K"):
		a := first(x[1:])
		return "L" + publicOf(a) + x[1+len(a):]
	}
	return "P" + x
}

func isKey(x api.Term) bool { return term.Right(x) && strings.Contains("PWL", string(x[:1])) }

// An answer is a term, or an error.
type answer struct {
	x api.Term
	e api.Errno
}

// built is what something comes to that is made of what may be, if ok.
func built(x api.Term, ok bool) answer {
	switch {
	case !ok:
		return answer{"", api.ErrTerm}
	case !term.Right(x):
		return answer{"", api.ErrLimit}
	}
	return answer{x, api.OK}
}

// allOf are the terms of answers, or nothing and the first error.
func allOf(l ...answer) ([6]api.Term, api.Errno) {
	var row [6]api.Term
	for i, a := range l {
		if a.e != api.OK {
			return [6]api.Term{}, a.e
		}
		row[i] = a.x
	}
	return row, api.OK
}

func modelChild(root api.Term, w string, n int64) answer {
	if n < 0 {
		return answer{"", api.ErrArg}
	}
	return built(kid(root, w, strconv.FormatInt(n, 10)), term.Right(root))
}

func modelChannel(root api.Term, n int64) (api.Secrets, api.Errno) {
	c := modelChild(root, "channel", n)
	if c.e != api.OK {
		return api.Secrets{}, c.e
	}
	next := func(w string) answer { return modelChild(c.x, w, 0) }
	row, e := allOf(next("fund"), next("rev"), next("pay"), next("later"), next("htlc"), next("seed"))
	return api.Secrets{Fund: row[0], Rev: row[1], Pay: row[2], Later: row[3], Htlc: row[4], Seed: row[5]}, e
}

func modelPub(x api.Term) answer {
	if !term.Right(x) {
		return answer{"", api.ErrTerm}
	}
	return built(publicOf(x), true)
}

func modelPublic(s api.Secrets) (api.Keys, api.Errno) {
	row, e := allOf(modelPub(s.Fund), modelPub(s.Rev), modelPub(s.Pay), modelPub(s.Later), modelPub(s.Htlc))
	return api.Keys{Fund: row[0], Rev: row[1], Pay: row[2], Later: row[3], Htlc: row[4]}, e
}

func modelReveal(s api.Secrets, n int64) answer {
	if n < 0 || n > api.Top {
		return answer{"", api.ErrArg}
	}
	return built(bySteps(s.Seed, n), term.Right(s.Seed))
}

func modelPoint(s api.Secrets, n int64) answer {
	a := modelReveal(s, n)
	if a.e != api.OK {
		return a
	}
	return modelPub(a.x)
}

func modelSet(c setCall) (api.KeySet, api.Errno) {
	bound := func(k api.Term) answer { return built("L"+k+c.point, isKey(k) && term.Right(c.point)) }
	rev := built("W"+c.other.Rev+c.point, isKey(c.other.Rev) && isKey(c.point))
	row, e := allOf(rev, bound(c.own.Later), bound(c.own.Htlc), bound(c.other.Htlc), built(c.other.Pay, isKey(c.other.Pay)))
	return api.KeySet{Rev: row[0], Later: row[1], Mine: row[2], Theirs: row[3], Pay: row[4]}, e
}

func modelTwo(op string, a, b api.Term) answer {
	return built(api.Term(op)+a+b, term.Right(a) && term.Right(b))
}

// A drawer draws what calls are given.
type drawer struct{ *rand.Rand }

func pick[T any](d drawer, l []T) T { return l[d.Intn(len(l))] }

// right is a right term of some forms within one another.
func (d drawer) right(deep int) api.Term {
	if deep == 0 {
		return pick(d, []api.Term{"n1;", "n2;", "n30;", "t0:", "t2:ab", "T0:", "t3:n1;"})
	}
	part := func() api.Term { return d.right(d.Intn(deep)) }
	switch d.Intn(9) {
	case 0:
		return "V" + part() + part()
	case 1:
		return "K" + part() + part()
	case 2:
		return "D" + part() + part()
	case 3:
		return "T2:" + part() + part()
	case 4:
		return "H" + part()
	case 5:
		return publicOf(part())
	case 6:
		return "S" + part() + part()
	case 7:
		return "B" + part() + part()
	}
	return part()
}

// big is a right term near a limit.
func (d drawer) big() api.Term {
	if d.Intn(2) == 0 {
		return nest(64 - d.Intn(1+d.Intn(30)))
	}
	return sized(16384 - d.Intn(1+d.Intn(140)))
}

// bytes is a text of bytes that terms have.
func (d drawer) bytes() api.Term {
	const from = "ntTPHSBXDVWKL01239:;"
	b := make([]byte, d.Intn(12))
	for i := range b {
		b[i] = from[d.Intn(len(from))]
	}
	return api.Term(b)
}

func (d drawer) term() api.Term {
	switch d.Intn(30) {
	case 0:
		return pick(d, wrong())
	case 1:
		return d.bytes()
	case 2:
		return d.big()
	}
	return d.right(d.Intn(5))
}

func (d drawer) key() api.Term {
	switch d.Intn(30) {
	case 0:
		return d.term()
	case 1:
		return "P" + d.big()
	}
	return publicOf(d.right(d.Intn(5)))
}

func (d drawer) number() int64 {
	switch d.Intn(6) {
	case 0:
		return pick(d, append(strange(), 0, 1, math.MaxInt64, api.Top, api.Top+1, 2*api.Top))
	case 1:
		return int64(d.Uint64())
	case 2:
		return int64(1)<<d.Intn(63) - 1
	}
	return d.Int63n(api.Top + 1)
}

func (d drawer) secrets() api.Secrets {
	return api.Secrets{Fund: d.term(), Rev: d.term(), Pay: d.term(), Later: d.term(), Htlc: d.term(), Seed: d.term()}
}

func (d drawer) keys() api.Keys {
	return api.Keys{Fund: d.key(), Rev: d.key(), Pay: d.key(), Later: d.key(), Htlc: d.key()}
}

// A count counts how calls ended.
type count map[api.Errno]int

// atLeast asks that each of these errors was met often enough.
func (c count) atLeast(t *testing.T, n int, l ...api.Errno) {
	t.Helper()
	for _, e := range l {
		if c[e] < n {
			t.Errorf("error %d was met %d times: too few", e, c[e])
		}
	}
}

func TestP16_1Model(t *testing.T) {
	d, met := drawer{rand.New(rand.NewSource(1))}, count{}
	for range 20000 {
		root, n := d.term(), d.number()
		if d.Intn(5) == 0 {
			root = d.big()
		}
		a := modelChild(root, "node", 0)
		isNode(t, root, a.x, a.e)
		a = modelChild(root, "coin", n)
		isCoin(t, root, n, a.x, a.e)
		met[a.e]++
	}
	met.atLeast(t, 100, api.OK, api.ErrArg, api.ErrTerm, api.ErrLimit)
}

func TestP16_2Model(t *testing.T) {
	d, met, public := drawer{rand.New(rand.NewSource(2))}, count{}, count{}
	for range 10000 {
		root, n := d.term(), d.number()
		if d.Intn(5) == 0 {
			root = d.big()
		}
		s, e := modelChannel(root, n)
		isChannel(t, root, n, s, e)
		met[e]++
		s = d.secrets()
		k, e := modelPublic(s)
		isPublic(t, s, k, e)
		public[e]++
	}
	met.atLeast(t, 100, api.OK, api.ErrArg, api.ErrTerm, api.ErrLimit)
	public.atLeast(t, 100, api.OK, api.ErrTerm, api.ErrLimit)
}

func TestP16_3Model(t *testing.T) {
	d, met := drawer{rand.New(rand.NewSource(3))}, count{}
	for range 5000 {
		s, n := d.secrets(), d.number()
		if d.Intn(5) == 0 {
			s.Seed = d.big()
		}
		a := modelReveal(s, n)
		isReveal(t, s, n, a.x, a.e)
		a = modelPoint(s, n)
		isPoint(t, s, n, a.x, a.e)
		met[a.e]++
	}
	met.atLeast(t, 100, api.OK, api.ErrArg, api.ErrTerm, api.ErrLimit)
}

func TestP16_4Model(t *testing.T) {
	d, met := drawer{rand.New(rand.NewSource(4))}, count{}
	for range 20000 {
		c := setCall{d.keys(), d.keys(), d.key()}
		set, e := modelSet(c)
		c.is(t, set, e)
		met[e]++
	}
	met.atLeast(t, 100, api.OK, api.ErrTerm, api.ErrLimit)
}

func TestP16_5Model(t *testing.T) {
	d, met := drawer{rand.New(rand.NewSource(5))}, count{}
	for range 20000 {
		x, y := d.term(), d.term()
		if d.Intn(10) == 0 {
			x, y = y, d.big()
		}
		a := modelTwo("K", x, y)
		isBind(t, x, y, a.x, a.e)
		a = modelTwo("V", x, y)
		isRevoke(t, x, y, a.x, a.e)
		met[a.e]++
		k, e := term.Bind(x, y)
		isBind(t, x, y, k, e)
		k, e = term.Join(x, y)
		isRevoke(t, x, y, k, e)
	}
	met.atLeast(t, 100, api.OK, api.ErrTerm, api.ErrLimit)
}
