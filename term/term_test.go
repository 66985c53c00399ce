package term

import (
	"math"
	"math/rand"
	"slices"
	"strconv"
	"strings"
	"testing"
	"unsafe"

	"sluiceway/api"
)

// nest is a term that is n deep.
func nest(n int) api.Term { return api.Term(strings.Repeat("H", n-1) + "n1;") }

// text is a text of n bytes, written by hand.
func text(n int) api.Term {
	return api.Term("t" + strconv.Itoa(n) + ":" + strings.Repeat("x", n))
}

// sized is a term of n bytes, for n from 12400 to 16400.
func sized(n int) api.Term {
	full := text(api.MaxText)
	rest := n - len("T4:") - 3*len(full)
	for k := rest; k >= 0; k-- {
		if last := text(k); len(last) == rest {
			return "T4:" + full + full + full + last
		}
	}
	return ""
}

type made struct {
	name string
	x    api.Term
	e    api.Errno
	want api.Term
	err  api.Errno
}

func make1(x api.Term, e api.Errno) func(name string, want api.Term, err api.Errno) made {
	return func(name string, want api.Term, err api.Errno) made { return made{name, x, e, want, err} }
}

func holds(t *testing.T, rows ...made) {
	t.Helper()
	for _, r := range rows {
		if r.x != r.want || r.e != r.err {
			t.Errorf("%s: %.60q, %d, want %.60q, %d", r.name, r.x, r.e, r.want, r.err)
		}
	}
}

func same(a, b api.Parts) bool {
	return a.Op == b.Op && a.N == b.N && a.Text == b.Text && slices.Equal(a.Kids, b.Kids)
}

func TestP1_1RightTerms(t *testing.T) {
	for _, r := range []struct {
		t     api.Term
		parts api.Parts
		deep  int
	}{
		{"n0;", api.Parts{Op: api.OpName}, 1},
		{"n7;", api.Parts{Op: api.OpName, N: 7}, 1},
		{"n10;", api.Parts{Op: api.OpName, N: 10}, 1},
		{"n9223372036854775807;", api.Parts{Op: api.OpName, N: math.MaxInt64}, 1},
		{"t0:", api.Parts{Op: api.OpText}, 1},
		{"t2:ab", api.Parts{Op: api.OpText, Text: "ab"}, 1},
		{"t3:n1;", api.Parts{Op: api.OpText, Text: "n1;"}, 1},
		{"t4:\x00\xff;:", api.Parts{Op: api.OpText, Text: "\x00\xff;:"}, 1},
		{"T0:", api.Parts{Op: api.OpTuple}, 1},
		{"T1:T0:", api.Parts{Op: api.OpTuple, Kids: []api.Term{"T0:"}}, 2},
		{"T3:n1;Hn2;t1:x", api.Parts{Op: api.OpTuple, Kids: []api.Term{"n1;", "Hn2;", "t1:x"}}, 3},
		{"Pn7;", api.Parts{Op: api.OpPub, Kids: []api.Term{"n7;"}}, 2},
		{"PPn7;", api.Parts{Op: api.OpPub, Kids: []api.Term{"Pn7;"}}, 3},
		{"PDn1;t1:x", api.Parts{Op: api.OpPub, Kids: []api.Term{"Dn1;t1:x"}}, 3},
		{"PHVn1;n2;", api.Parts{Op: api.OpPub, Kids: []api.Term{"HVn1;n2;"}}, 4},
		{"Ht0:", api.Parts{Op: api.OpHash, Kids: []api.Term{"t0:"}}, 2},
		{"Sn1;Hn2;", api.Parts{Op: api.OpSign, Kids: []api.Term{"n1;", "Hn2;"}}, 3},
		{"SHn1;n2;", api.Parts{Op: api.OpSign, Kids: []api.Term{"Hn1;", "n2;"}}, 3},
		{"Bn1;t1:a", api.Parts{Op: api.OpBox, Kids: []api.Term{"n1;", "t1:a"}}, 2},
		{"Xn10;n9;", api.Parts{Op: api.OpAgree, Kids: []api.Term{"n10;", "n9;"}}, 2},
		{"Xn9;n9;", api.Parts{Op: api.OpAgree, Kids: []api.Term{"n9;", "n9;"}}, 2},
		{"XVn1;n2;n9;", api.Parts{Op: api.OpAgree, Kids: []api.Term{"Vn1;n2;", "n9;"}}, 3},
		{"Dn1;t1:x", api.Parts{Op: api.OpChild, Kids: []api.Term{"n1;", "t1:x"}}, 2},
		{"Vn2;n1;", api.Parts{Op: api.OpJoin, Kids: []api.Term{"n2;", "n1;"}}, 2},
		{"WPn2;Pn1;", api.Parts{Op: api.OpJoint, Kids: []api.Term{"Pn2;", "Pn1;"}}, 3},
		{"WLPn1;t0:WPn1;Pn2;", api.Parts{Op: api.OpJoint, Kids: []api.Term{"LPn1;t0:", "WPn1;Pn2;"}}, 4},
		{"Kn1;t1:x", api.Parts{Op: api.OpBind, Kids: []api.Term{"n1;", "t1:x"}}, 2},
		{"LPn1;t1:x", api.Parts{Op: api.OpBound, Kids: []api.Term{"Pn1;", "t1:x"}}, 3},
		{"LLPn1;t0:n2;", api.Parts{Op: api.OpBound, Kids: []api.Term{"LPn1;t0:", "n2;"}}, 4},
		{"LWPn1;Pn2;n2;", api.Parts{Op: api.OpBound, Kids: []api.Term{"WPn1;Pn2;", "n2;"}}, 4},
	} {
		p, ok := Open(r.t)
		if !ok || !same(p, r.parts) {
			t.Errorf("Open(%q): %v, %t", r.t, p, ok)
		}
		if !Right(r.t) || Size(r.t) != len(r.t) || Deep(r.t) != r.deep {
			t.Errorf("%q: Right %t, Size %d, Deep %d", r.t, Right(r.t), Size(r.t), Deep(r.t))
		}
	}
}

func isNone(t *testing.T, x api.Term) {
	t.Helper()
	p, ok := Open(x)
	if ok || !same(p, api.Parts{}) || Right(x) || Size(x) != 0 || Deep(x) != 0 {
		t.Errorf("%.60q (%d bytes) is told as a right term: %v, %t, %t, %d, %d", x, len(x), p, ok, Right(x), Size(x), Deep(x))
	}
}

func TestP1_1WrongTerms(t *testing.T) {
	for _, x := range []api.Term{
		"", "n", "n;", ";", "n1", "n07;", "n00;", "n-1;", "n+1;", "n 1;", "n1 ;", "n1:", "n/;", "n:;", "n\x00;",
		"n9223372036854775808;", "n18446744073709551616;", "n18446744073709551623;", "n99999999999999999999;",
		"t", "t:", "t3:ab", "t1:ab", "t02:ab", "t-1:", "t2;ab", "t18446744073709551616:", "t9223372036854775807:x",
		"T", "T:", "T1:", "T2:n1;", "T0:n1;", "T1:n1;n2;", "T01:n1;", "T-1:", "T1;n1;", "T1:x",
		"P", "PVn1;n2;", "PKn1;t1:x", "Pn1;n2;", "H", "Hx", "Hn1;n2;",
		"S", "Sn1;", "Sn1;x", "Bn1;", "Dn1;", "Vn1;", "Kn1;", "Xn1;", "Xn9;n10;", "Xn2;n1;", "XHn1;Bn1;n1;",
		"Wn1;Pn2;", "WPn1;n2;", "WPn1;", "WHn1;Pn2;", "WPn1;Vn1;n2;", "Ln1;t1:x", "LPn1;", "LKn1;n2;t1:x", "LVn1;n2;n3;",
		"n1;n2;", "n1; ", " n1;", "n1;\x00", "Q", "Qn1;", "p", "N1;", "\xff", "HQ", "T2:n1;PVn1;n2;", "HXn2;n1;",
	} {
		isNone(t, x)
	}
}

func TestP1_1Limits(t *testing.T) {
	many := func(n int) api.Term { return api.Term("T" + strconv.Itoa(n) + ":" + strings.Repeat("n1;", n)) }
	for _, r := range []struct {
		name     string
		at, past api.Term
	}{
		{"MaxTerm", sized(api.MaxTerm), sized(api.MaxTerm + 1)},
		{"MaxDeep", nest(api.MaxDeep), nest(api.MaxDeep + 1)},
		{"MaxTuple", many(api.MaxTuple), many(api.MaxTuple + 1)},
		{"MaxText", text(api.MaxText), text(api.MaxText + 1)},
	} {
		if !Right(r.at) || Size(r.at) != len(r.at) {
			t.Errorf("%s: refused", r.name)
		}
		isNone(t, r.past)
	}
	if len(sized(api.MaxTerm)) != api.MaxTerm || Deep(nest(api.MaxDeep)) != api.MaxDeep {
		t.Error("the limits are not reached")
	}
	for _, op := range []string{"S", "B", "D", "V", "K", "X"} {
		deep := api.Term(strings.Repeat(op, api.MaxDeep-1) + strings.Repeat("n1;", api.MaxDeep))
		if Deep(deep) != api.MaxDeep {
			t.Errorf("%s: %d deep", op, Deep(deep))
		}
		isNone(t, api.Term(op)+deep+"n1;")
		isNone(t, api.Term(op)+"n1;"+deep)
	}
	isNone(t, "T1:"+nest(api.MaxDeep))
	isNone(t, "T2:n1;"+nest(api.MaxDeep))
}

func TestP1_1HugeTextsEnd(t *testing.T) {
	for _, s := range []string{"H", "V", "T32:", "T1:", "n1;", "n0", "n9", "W", "P", "X", "\x00", "t4096:"} {
		isNone(t, api.Term(strings.Repeat(s, 1<<20)))
		isNone(t, api.Term(strings.Repeat(s, api.MaxTerm/len(s))))
	}
}

// A right term ends where it ends: no piece of it, and nothing longer, is another one.
func TestP1_1JustOneTerm(t *testing.T) {
	for _, x := range []api.Term{"n120;", "t12:abcdefghijkl", "T2:n1;T1:n2;", "Sn1;Hn2;", "WPn1;LPn2;t1:x", "Xn10;n9;"} {
		for i := range x {
			isNone(t, x[:i])
		}
		for b := range 256 {
			isNone(t, x+api.Term([]byte{byte(b)}))
		}
	}
}

// The right terms of up to five of these pieces, told by the forms alone, beside all rows of so many pieces.
func TestP1_1AllSmallTexts(t *testing.T) {
	const most = 5
	pieces := []string{"n0;", "n1;", "t0:", "t1:", "T0:", "T1:", "T2:", "P", "H", "S", "X", "V", "W", "K", "L"}
	right := map[string]int{}
	var by [most + 1][]string
	put := func(n int, s string) {
		right[s] = n
		by[n] = append(by[n], s)
	}
	key := func(s string) bool { return strings.ContainsAny(s[:1], "PWL") }
	for n := 1; n <= most; n++ {
		if n == 1 {
			for _, s := range []string{"n0;", "n1;", "t0:", "T0:"} {
				put(1, s)
			}
			continue
		}
		if n == 2 {
			for _, p := range pieces {
				if len(p) == 1 {
					put(2, "t1:"+p)
				}
			}
		}
		for _, a := range by[n-1] {
			put(n, "T1:"+a)
			put(n, "H"+a)
			if a[0] != 'V' && a[0] != 'K' {
				put(n, "P"+a)
			}
		}
		for i := 1; i < n-1; i++ {
			for _, a := range by[i] {
				for _, b := range by[n-1-i] {
					for _, op := range []string{"T2:", "S", "V", "K"} {
						put(n, op+a+b)
					}
					if a <= b {
						put(n, "X"+a+b)
					}
					if key(a) {
						put(n, "L"+a+b)
					}
					if key(a) && key(b) {
						put(n, "W"+a+b)
					}
				}
			}
		}
	}
	var all func(s string, n int)
	all = func(s string, n int) {
		if Right(api.Term(s)) != (right[s] > 0) {
			t.Fatalf("%q: %t", s, Right(api.Term(s)))
		}
		if n < most {
			for _, p := range pieces {
				all(s+p, n+1)
			}
		}
	}
	all("", 0)
	if len(right) < 1000 {
		t.Errorf("only %d right terms", len(right))
	}
}

// written puts parts together by hand.
func written(p api.Parts) api.Term {
	s := string([]byte{p.Op})
	switch p.Op {
	case api.OpName:
		s += strconv.FormatInt(p.N, 10) + ";"
	case api.OpText:
		s += strconv.Itoa(len(p.Text)) + ":" + p.Text
	case api.OpTuple:
		s += strconv.Itoa(len(p.Kids)) + ":"
	}
	for _, k := range p.Kids {
		s += string(k)
	}
	return api.Term(s)
}

// Whatever one byte is changed, taken out or put in: what is then told as right is written just as its parts say, and its parts are right.
func TestP1_1SpoiltTexts(t *testing.T) {
	draw := rand.New(rand.NewSource(1))
	bytes := "nt0123456789;:TPHSBXDVWKL \x00\xff"
	seeds := pool()
	for range 200000 {
		x := []byte(seeds[draw.Intn(len(seeds))])
		i, b := draw.Intn(len(x)), bytes[draw.Intn(len(bytes))]
		switch draw.Intn(3) {
		case 0:
			x[i] = b
		case 1:
			x = slices.Delete(x, i, i+1)
		case 2:
			x = slices.Insert(x, i, b)
		}
		p, ok := Open(api.Term(x))
		if !ok {
			isNone(t, api.Term(x))
			continue
		}
		if written(p) != api.Term(x) {
			t.Fatalf("%q opens as %v", x, p)
		}
		deepest := 0
		for _, k := range p.Kids {
			if !Right(k) {
				t.Fatalf("%q has the part %q", x, k)
			}
			deepest = max(deepest, Deep(k))
		}
		if Deep(api.Term(x)) != deepest+1 {
			t.Fatalf("%q is %d deep", x, Deep(api.Term(x)))
		}
	}
}

// within tells whether two texts share memory.
func within(a, b string) bool {
	if len(a) == 0 || len(b) == 0 {
		return false
	}
	p, q := uintptr(unsafe.Pointer(unsafe.StringData(a))), uintptr(unsafe.Pointer(unsafe.StringData(b)))
	return p < q+uintptr(len(b)) && q < p+uintptr(len(a))
}

func TestAnswersAreNewMemory(t *testing.T) {
	x := api.Term("T2:" + strings.Repeat("n1;", 2))
	p, _ := Open(x)
	q, _ := Open(x)
	if within(string(p.Kids[0]), string(x)) || within(string(p.Kids[0]), string(p.Kids[1])) || within(string(p.Kids[0]), string(q.Kids[0])) {
		t.Error("Open's parts share memory")
	}
	p.Kids[0] = "spoilt"
	if again, _ := Open(x); !same(again, q) {
		t.Error("an answer that was changed is seen in another")
	}
	s := text(100)
	if p, _ := Open(s); within(p.Text, string(s)) {
		t.Error("Open's text shares memory")
	}
	c := "Bn1;" + s
	if m, ok := Unbox("n1;", c); !ok || within(string(m), string(c)) {
		t.Error("Unbox shares memory")
	}
	back := make([]api.Term, 3)
	copy(back, []api.Term{"n1;", "n2;", "n3;"})
	Tuple(back[:2]...)
	if !slices.Equal(back, []api.Term{"n1;", "n2;", "n3;"}) {
		t.Error("Tuple changed what was handed in")
	}
}

func TestP1_2NameTextTuple(t *testing.T) {
	thirty2 := slices.Repeat([]api.Term{"n1;"}, api.MaxTuple)
	thirty3 := slices.Repeat([]api.Term{"n1;"}, api.MaxTuple+1)
	full := text(api.MaxText)
	last := sized(api.MaxTerm)[len("T4:")+3*len(full):]
	holds(t,
		make1(Name(0))("Name 0", "n0;", 0),
		make1(Name(7))("Name", "n7;", 0),
		make1(Name(math.MaxInt64))("Name, the greatest", "n9223372036854775807;", 0),
		make1(Name(-1))("Name below 0", "", api.ErrArg),
		make1(Name(math.MinInt64))("Name, the least", "", api.ErrArg),
		make1(Text(""))("Text of none", "t0:", 0),
		make1(Text("ab"))("Text", "t2:ab", 0),
		make1(Text("\x00\xffn1;"))("Text of any bytes", "t5:\x00\xffn1;", 0),
		make1(Text(strings.Repeat("x", api.MaxText)))("Text at its limit", full, 0),
		make1(Text(strings.Repeat("x", api.MaxText+1)))("Text past its limit", "", api.ErrLimit),
		make1(Tuple())("Tuple of none", "T0:", 0),
		make1(Tuple(nil...))("Tuple of nil", "T0:", 0),
		make1(Tuple("n7;", "n8;"))("Tuple", "T2:n7;n8;", 0),
		make1(Tuple("T0:"))("Tuple in a tuple", "T1:T0:", 0),
		make1(Tuple(thirty2...))("Tuple of the most", api.Term("T32:"+strings.Repeat("n1;", 32)), 0),
		make1(Tuple(thirty3...))("Tuple of more", "", api.ErrLimit),
		make1(Tuple("n7;", ""))("Tuple of what is none", "", api.ErrTerm),
		make1(Tuple("PVn1;n2;"))("Tuple of a key that is none", "", api.ErrTerm),
		make1(Tuple(nest(63)))("Tuple as deep as may be", "T1:"+nest(63), 0),
		make1(Tuple("n1;", nest(64)))("Tuple too deep", "", api.ErrLimit),
		make1(Tuple(nest(63), nest(64)))("Tuple too deep by its second part", "", api.ErrLimit),
		make1(Tuple(nest(64), nest(63)))("Tuple too deep by its first part", "", api.ErrLimit),
		make1(Tuple(full, full, full, last))("Tuple as long as may be", sized(api.MaxTerm), 0),
		make1(Tuple(full, full, full, text(4070)))("Tuple too long", "", api.ErrLimit),
		make1(Tuple(full, full, full, full, "n"))("Tuple too long, of what is none", "", api.ErrTerm),
		make1(Tuple(append(thirty3, "n")...))("Tuple of more, and of what is none", "", api.ErrLimit),
	)
}

func TestP1_3HashChildJoinBind(t *testing.T) {
	holds(t,
		make1(Hash("n7;"))("Hash", "Hn7;", 0),
		make1(Hash(""))("Hash of nothing", "", api.ErrTerm),
		make1(Hash("n07;"))("Hash of what is none", "", api.ErrTerm),
		make1(Hash(nest(63)))("Hash as deep as may be", nest(64), 0),
		make1(Hash(nest(64)))("Hash too deep", "", api.ErrLimit),
		make1(Hash(nest(65)))("Hash of what is too deep", "", api.ErrTerm),
		make1(Hash(sized(api.MaxTerm-1)))("Hash as long as may be", "H"+sized(api.MaxTerm-1), 0),
		make1(Hash(sized(api.MaxTerm)))("Hash too long", "", api.ErrLimit),
		make1(Hash(sized(api.MaxTerm+1)))("Hash of what is too long", "", api.ErrTerm),
		make1(Child("n1;", "t1:x"))("Child", "Dn1;t1:x", 0),
		make1(Join("n2;", "n1;"))("Join", "Vn2;n1;", 0),
		make1(Join(nest(63), nest(64)))("Join too deep by its second part", "", api.ErrLimit),
		make1(Join(nest(64), nest(63)))("Join too deep by its first part", "", api.ErrLimit),
		make1(Bind("n1;", "Pn2;"))("Bind", "Kn1;Pn2;", 0),
	)
	for op, f := range map[string]func(a, b api.Term) (api.Term, api.Errno){"D": Child, "V": Join, "K": Bind, "S": Sign, "B": Box} {
		twoTakes(t, op, f, "n1;")
	}
}

// twoTakes: what holds of all calls that put two terms together; a is a small term that may stand first.
func twoTakes(t *testing.T, op string, f func(a, b api.Term) (api.Term, api.Errno), a api.Term) {
	t.Helper()
	o := api.Term(op)
	room := api.MaxTerm - 1 - len(a)
	holds(t,
		make1(f(a, "t1:x"))(op, o+a+"t1:x", 0),
		make1(f("", "t1:x"))(op+" of nothing and a text", "", api.ErrTerm),
		make1(f(a, ""))(op+" of a term and nothing", "", api.ErrTerm),
		make1(f(a, "n1;n2;"))(op+" of a term and two", "", api.ErrTerm),
		make1(f(a+"n2;", "n1;"))(op+" of two terms and one", "", api.ErrTerm),
		make1(f(a, nest(63)))(op+" as deep as may be", o+a+nest(63), 0),
		make1(f(a, nest(64)))(op+" too deep", "", api.ErrLimit),
		make1(f(a, sized(room)))(op+" as long as may be", o+a+sized(room), 0),
		make1(f(a, sized(room+1)))(op+" too long", "", api.ErrLimit),
		make1(f("n", sized(api.MaxTerm)))(op+" of what is none, too long", "", api.ErrTerm),
		make1(f(a, sized(api.MaxTerm+1)))(op+" of what is too long", "", api.ErrTerm),
	)
}

func TestP1_4Pub(t *testing.T) {
	vs := func(n int) api.Term {
		return api.Term(strings.Repeat("V", n-1) + strings.Repeat("n1;", n))
	}
	ws := func(n int) api.Term {
		return api.Term(strings.Repeat("W", n-1) + strings.Repeat("Pn1;", n))
	}
	full := sized(api.MaxTerm - 1)
	tight := sized(api.MaxTerm - 1 - len("n1;"))
	tighter := sized(api.MaxTerm - 2 - len("n1;"))
	holds(t,
		make1(Pub("n7;"))("Pub", "Pn7;", 0),
		make1(Pub("Pn7;"))("Pub of a public key", "PPn7;", 0),
		make1(Pub("t1:x"))("Pub of a text", "Pt1:x", 0),
		make1(Pub("WPn1;Pn2;"))("Pub of a joint key", "PWPn1;Pn2;", 0),
		make1(Pub("Vn1;n2;"))("Pub of what was joined", "WPn1;Pn2;", 0),
		make1(Pub("Kn1;t1:x"))("Pub of what was bound", "LPn1;t1:x", 0),
		make1(Pub("VVn1;n2;Kn3;Vn4;n5;"))("Pub of what was joined and bound", "WWPn1;Pn2;LPn3;Vn4;n5;", 0),
		make1(Pub("KVn1;Dn2;t0:Kn1;n2;"))("Pub of what was bound and joined", "LWPn1;PDn2;t0:Kn1;n2;", 0),
		make1(Pub("HVn1;n2;"))("Pub of a digest", "PHVn1;n2;", 0),
		make1(Pub(""))("Pub of nothing", "", api.ErrTerm),
		make1(Pub("V"))("Pub of an op", "", api.ErrTerm),
		make1(Pub("K"))("Pub of an op", "", api.ErrTerm),
		make1(Pub("n1;n2;"))("Pub of two", "", api.ErrTerm),
		make1(Pub("PVn1;n2;"))("Pub of a key that is none", "", api.ErrTerm),
		make1(Pub(nest(63)))("Pub as deep as may be", "P"+nest(63), 0),
		make1(Pub(nest(64)))("Pub too deep", "", api.ErrLimit),
		make1(Pub(vs(63)))("Pub of a row as deep as may be", ws(63), 0),
		make1(Pub(vs(64)))("Pub of a row too deep", "", api.ErrLimit),
		make1(Pub(vs(65)))("Pub of a row that is too deep", "", api.ErrTerm),
		make1(Pub(full))("Pub as long as may be", "P"+full, 0),
		make1(Pub(sized(api.MaxTerm)))("Pub too long", "", api.ErrLimit),
		make1(Pub("Kn1;"+tighter))("Pub of what was bound, as long as may be", "LPn1;"+tighter, 0),
		make1(Pub("Kn1;"+tight))("Pub of what was bound, too long", "", api.ErrLimit),
	)
}

func TestP1_4JointBoundAgree(t *testing.T) {
	holds(t,
		make1(Joint("Pn1;", "Pn2;"))("Joint", "WPn1;Pn2;", 0),
		make1(Joint("Pn2;", "Pn1;"))("Joint turned", "WPn2;Pn1;", 0),
		make1(Joint("WPn1;Pn2;", "LPn3;n4;"))("Joint of made keys", "WWPn1;Pn2;LPn3;n4;", 0),
		make1(Joint("n1;", "Pn2;"))("Joint of a secret and a key", "", api.ErrTerm),
		make1(Joint("Pn1;", "n2;"))("Joint of a key and a secret", "", api.ErrTerm),
		make1(Joint("", "Pn2;"))("Joint of nothing and a key", "", api.ErrTerm),
		make1(Joint("Pn1;", ""))("Joint of a key and nothing", "", api.ErrTerm),
		make1(Joint("P", "Pn2;"))("Joint of an op", "", api.ErrTerm),
		make1(Joint("Pn1;", "PKn1;n2;"))("Joint of a key that is none", "", api.ErrTerm),
		make1(Joint("Pn1;", "P"+nest(62)))("Joint as deep as may be", "WPn1;P"+nest(62), 0),
		make1(Joint("P"+nest(63), "Pn1;"))("Joint too deep", "", api.ErrLimit),
		make1(Joint("Pn1;", "P"+sized(api.MaxTerm-6)))("Joint as long as may be", "WPn1;P"+sized(api.MaxTerm-6), 0),
		make1(Joint("Pn1;", "P"+sized(api.MaxTerm-5)))("Joint too long", "", api.ErrLimit),
		make1(Joint("n1;", "P"+sized(api.MaxTerm-1)))("Joint of a secret, too long", "", api.ErrTerm),
		make1(Bound("Pn1;", "t1:x"))("Bound", "LPn1;t1:x", 0),
		make1(Bound("WPn1;Pn2;", "n3;"))("Bound of a joint key", "LWPn1;Pn2;n3;", 0),
		make1(Bound("n1;", "t1:x"))("Bound of a secret", "", api.ErrTerm),
		make1(Bound("n1;", sized(api.MaxTerm)))("Bound of a secret, too long", "", api.ErrTerm),
		make1(Agree("n9;", "Pn10;"))("Agree", "Xn10;n9;", 0),
		make1(Agree("n10;", "Pn9;"))("Agree turned", "Xn10;n9;", 0),
		make1(Agree("n9;", "Pn9;"))("Agree with oneself", "Xn9;n9;", 0),
		make1(Agree("Vn1;n2;", "Pn3;"))("Agree by a joined secret", "XVn1;n2;n3;", 0),
		make1(Agree("n1;", "WPn1;Pn2;"))("Agree with a joint key", "", api.ErrTerm),
		make1(Agree("n1;", "LPn1;n2;"))("Agree with a bound key", "", api.ErrTerm),
		make1(Agree("n1;", "n2;"))("Agree with a secret", "", api.ErrTerm),
		make1(Agree("n1;", "PVn1;n2;"))("Agree with a key that is none", "", api.ErrTerm),
		make1(Agree("n1;", ""))("Agree with nothing", "", api.ErrTerm),
		make1(Agree("n1;", "P"))("Agree with an op", "", api.ErrTerm),
		make1(Agree("", "Pn1;"))("Agree of nothing", "", api.ErrTerm),
		make1(Agree("n", "P"+sized(api.MaxTerm-1)))("Agree of what is none, too long", "", api.ErrTerm),
		make1(Agree(nest(63), "Pn1;"))("Agree as deep as may be", "X"+nest(63)+"n1;", 0),
		make1(Agree(nest(64), "Pn1;"))("Agree too deep", "", api.ErrLimit),
		make1(Agree("n1;", "P"+nest(63)))("Agree with a key as deep as may be", "X"+nest(63)+"n1;", 0),
		make1(Agree("n123;", "P"+sized(api.MaxTerm-5)))("Agree too long", "", api.ErrLimit),
		make1(Agree("n12;", "P"+sized(api.MaxTerm-5)))("Agree as long as may be", "X"+sized(api.MaxTerm-5)+"n12;", api.OK),
	)
	twoTakes(t, "L", Bound, "Pn1;")
}

func TestP1_5SignVerify(t *testing.T) {
	// A right term whose public key is longer than any right term: the document defines it all the same.
	var wide func(n int) api.Term
	wide = func(n int) api.Term {
		if n == 0 {
			return "n1;"
		}
		return "V" + wide(n-1) + wide(n-1)
	}
	tooLong := "V" + wide(11) + "V" + wide(10) + wide(9)
	keyTooLong := api.Term(strings.NewReplacer("V", "W", "n1;", "Pn1;").Replace(string(tooLong)))
	for _, r := range []struct {
		name    string
		p, m, s api.Term
		want    bool
	}{
		{"its key", "Pn1;", "t1:a", "Sn1;t1:a", true},
		{"another key", "Pn2;", "t1:a", "Sn1;t1:a", false},
		{"another text", "Pn1;", "t1:b", "Sn1;t1:a", false},
		{"its secret", "n1;", "t1:a", "Sn1;t1:a", false},
		{"a joined secret", "WPn1;Pn2;", "t0:", "SVn1;n2;t0:", true},
		{"a joined secret, the key turned", "WPn2;Pn1;", "t0:", "SVn1;n2;t0:", false},
		{"a joined secret, one of its keys", "Pn1;", "t0:", "SVn1;n2;t0:", false},
		{"a joined secret, a key that is none", "PVn1;n2;", "t0:", "SVn1;n2;t0:", false},
		{"a bound secret", "LPn1;t1:x", "t0:", "SKn1;t1:xt0:", true},
		{"a bound secret, the key unbound", "Pn1;", "t0:", "SKn1;t1:xt0:", false},
		{"a key as secret", "PPn1;", "t0:", "SPn1;t0:", true},
		{"a box", "Pn1;", "t1:a", "Bn1;t1:a", false},
		{"a child", "Pn1;", "t1:a", "Dn1;t1:a", false},
		{"more behind it", "Pn1;", "t1:a", "Sn1;t1:an1;", false},
		{"nothing", "", "", "", false},
		{"an op", "P", "", "S", false},
		{"no text", "Pn1;", "", "Sn1;", false},
		{"a text that is none", "Pn1;", "t2:a", "Sn1;t2:a", false},
		{"a secret that is none", "Pn01;", "t1:a", "Sn01;t1:a", false},
		{"as deep as may be", "P" + nest(63), "n1;", "S" + nest(63) + "n1;", true},
		{"too deep", "P" + nest(64), "n1;", "S" + nest(64) + "n1;", false},
		{"too long", "Pn1;", sized(api.MaxTerm - 3), "Sn1;" + sized(api.MaxTerm-3), false},
		{"as long as may be", "Pn1;", sized(api.MaxTerm - 4), "Sn1;" + sized(api.MaxTerm-4), true},
		{"a public key that is too long", keyTooLong, "t0:", "S" + tooLong + "t0:", true},
		{"not the public key that is too long", keyTooLong[:len(keyTooLong)-1], "t0:", "S" + tooLong + "t0:", false},
	} {
		if Verify(r.p, r.m, r.s) != r.want {
			t.Errorf("Verify, %s: %t", r.name, !r.want)
		}
	}
	holds(t, make1(Pub(tooLong))("Pub of what has a public key too long", "", api.ErrLimit))
	if s, e := Sign(tooLong, "t0:"); e != api.OK || len(keyTooLong) <= api.MaxTerm {
		t.Errorf("the signature is %d bytes long, its key %d", len(s), len(keyTooLong))
	}
	twoTakes(t, "S", Sign, "n1;")
}

func TestP1_5BoxUnbox(t *testing.T) {
	for _, r := range []struct {
		name    string
		k, c, m api.Term
		ok      bool
	}{
		{"its key", "n1;", "Bn1;t1:a", "t1:a", true},
		{"another key", "n2;", "Bn1;t1:a", "", false},
		{"the public key", "Pn1;", "Bn1;t1:a", "", false},
		{"an agreed key", "Xn1;n2;", "BXn1;n2;Hn3;", "Hn3;", true},
		{"a piece of the key", "n1;", "BVn1;n2;t1:a", "", false},
		{"a signature", "n1;", "Sn1;t1:a", "", false},
		{"more behind it", "n1;", "Bn1;t1:an2;", "", false},
		{"nothing in it", "n1;", "Bn1;", "", false},
		{"nothing", "", "", "", false},
		{"an op", "", "B", "", false},
		{"a key that is none", "n01;", "Bn01;t1:a", "", false},
		{"too deep", "n1;", "Bn1;" + nest(64), "", false},
		{"as deep as may be", "n1;", "Bn1;" + nest(63), nest(63), true},
		{"as long as may be", "n1;", "Bn1;" + sized(api.MaxTerm-4), sized(api.MaxTerm - 4), true},
		{"too long", "n1;", "Bn1;" + sized(api.MaxTerm-3), "", false},
	} {
		if m, ok := Unbox(r.k, r.c); m != r.m || ok != r.ok {
			t.Errorf("Unbox, %s: %.60q, %t", r.name, m, ok)
		}
	}
	twoTakes(t, "B", Box, "n1;")
}

// pool is some terms of all forms, made by the calls.
func pool() []api.Term {
	l := []api.Term{"n0;", "n1;", "n9;", "n10;", "t0:", "t1:x", "T0:"}
	must := func(x api.Term, e api.Errno) {
		if e == api.OK {
			l = append(l, x)
		}
	}
	for range 2 {
		small := slices.Clone(l)
		for i, a := range small[max(0, len(small)-40):] {
			b := small[(i*7+3)%len(small)]
			must(Tuple(a, b, a))
			must(Hash(a))
			must(Child(a, b))
			must(Join(a, b))
			must(Bind(a, b))
			p, _ := Pub(a)
			q, _ := Pub(b)
			must(p, api.OK)
			must(Joint(p, q))
			must(Bound(p, b))
			must(Agree(a, q))
			must(Sign(a, b))
			must(Box(a, b))
		}
	}
	slices.Sort(l)
	return slices.Compact(l)
}

func TestP1_6MadeOfRightTerms(t *testing.T) {
	opens := func(x api.Term, e api.Errno, want api.Parts) {
		t.Helper()
		if p, ok := Open(x); e != api.OK || !ok || !same(p, want) {
			t.Fatalf("%q, %d opens as %v, %t, want %v", x, e, p, ok, want)
		}
	}
	l := pool()
	for i, a := range l {
		b := l[(i*31+5)%len(l)]
		x, e := Tuple(a, b)
		opens(x, e, api.Parts{Op: api.OpTuple, Kids: []api.Term{a, b}})
		x, e = Hash(a)
		opens(x, e, api.Parts{Op: api.OpHash, Kids: []api.Term{a}})
		x, e = Child(a, b)
		opens(x, e, api.Parts{Op: api.OpChild, Kids: []api.Term{a, b}})
		x, e = Join(a, b)
		opens(x, e, api.Parts{Op: api.OpJoin, Kids: []api.Term{a, b}})
		x, e = Bind(a, b)
		opens(x, e, api.Parts{Op: api.OpBind, Kids: []api.Term{a, b}})
		x, e = Sign(a, b)
		opens(x, e, api.Parts{Op: api.OpSign, Kids: []api.Term{a, b}})
		x, e = Box(a, b)
		opens(x, e, api.Parts{Op: api.OpBox, Kids: []api.Term{a, b}})
		p, e := Pub(a)
		if e != api.OK || !Right(p) {
			t.Fatalf("Pub(%q): %q, %d", a, p, e)
		}
		if a[0] != api.OpJoin && a[0] != api.OpBind {
			opens(p, e, api.Parts{Op: api.OpPub, Kids: []api.Term{a}})
		}
	}
}

func TestP1_6KeysFit(t *testing.T) {
	l := pool()
	agreed, others := 0, 0
	for i, a := range l {
		for j := range 20 {
			b := l[(i*17+j*29)%len(l)]
			p, _ := Pub(a)
			q, _ := Pub(b)
			joined, _ := Join(a, b)
			pj, e1 := Pub(joined)
			wj, e2 := Joint(p, q)
			bound, _ := Bind(a, b)
			pb, e3 := Pub(bound)
			wb, e4 := Bound(p, b)
			if pj != wj || pb != wb || e1+e2+e3+e4 != api.OK {
				t.Fatalf("the public keys of %q and %q: %q, %q, %q, %q", a, b, pj, wj, pb, wb)
			}
			if p[0] == api.OpPub && q[0] == api.OpPub {
				x, e := Agree(a, q)
				y, f := Agree(b, p)
				if x != y || e != api.OK || f != api.OK || !Right(x) {
					t.Fatalf("%q and %q agree on %q, %q", a, b, x, y)
				}
				agreed++
			}
			s, _ := Sign(a, b)
			c, _ := Box(a, b)
			if m, ok := Unbox(a, c); !ok || m != b || !Verify(p, b, s) {
				t.Fatalf("%q and %q are not signed or boxed", a, b)
			}
			if a == b {
				continue
			}
			others++
			if _, ok := Unbox(b, c); ok || Verify(q, b, s) || Verify(p, a, s) {
				t.Fatalf("%q fits %q", b, a)
			}
		}
	}
	if agreed < 100 || others < 100 {
		t.Errorf("only %d agreed, %d others", agreed, others)
	}
}
