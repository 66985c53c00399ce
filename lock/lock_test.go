package lock

import (
	"fmt"
	"math"
	"slices"
	"strings"
	"testing"

	"sluiceway/api"
)

// example is the chapter's.
func example() api.Lock { return Any(Sig("Pn1;"), All(Pre("Hn2;"), Older(6))) }

const exampleText = "|2:sPn1;&2:pHn2;o6;"

// sized is a right term of so many bytes that begins so, for 12400 bytes and more.
func sized(head api.Term, size int) api.Term {
	full := "t4096:" + api.Term(strings.Repeat("x", 4096))
	t := head + "T4:" + full + full + full
	for n := 4096; n > 0; n-- {
		if last := api.Term(fmt.Sprintf("t%d:%s", n, strings.Repeat("x", n))); len(t)+len(last) == size {
			return t + last
		}
	}
	panic(size)
}

// hashes is a term that is so deep; nested one with such a beginning, which makes it one deeper.
func hashes(deep int) api.Term { return api.Term(strings.Repeat("H", deep-1)) + "n1;" }

func nested(head api.Term, deep int) api.Term { return head + hashes(deep-1) }

// deepLock is a lock of so many parts, each within the one ahead, made by hand.
func deepLock(kind uint8, parts int) api.Lock {
	l := api.Lock{Kind: api.LAfter}
	for range parts - 1 {
		l = api.Lock{Kind: kind, Kids: []api.Lock{l}}
	}
	return l
}

// broadLock is a lock of so many parts, up to 73, as broad as may be.
func broadLock(kind uint8, parts int) api.Lock {
	l := api.Lock{Kind: kind}
	for left := parts - 1; left > 0; {
		k := api.Lock{Kind: api.LOlder}
		if left > 1 {
			k = api.Lock{Kind: kind, Kids: slices.Repeat([]api.Lock{{Kind: api.LOlder}}, min(8, left-1))}
		}
		l.Kids = append(l.Kids, k)
		left -= 1 + len(k.Kids)
	}
	return l
}

// isRight asks that a lock is right, and written so; isWrong that it is none, by all calls.
func isRight(t *testing.T, l api.Lock, text string) {
	t.Helper()
	if !Right(l) {
		t.Errorf("Right of %s: false", short(l))
	}
	if s, e := Write(l); s != text || e != api.OK {
		t.Errorf("Write of %s: %s, %d; want %s", short(l), short(s), e, short(text))
	}
	if back, e := Read(text); e != api.OK || !same(back, l) {
		t.Errorf("Read of %s: %s, %d; want %s", short(text), short(back), e, short(l))
	}
	check(t, l)
}

func isWrong(t *testing.T, l api.Lock) {
	t.Helper()
	if Right(l) {
		t.Errorf("Right of %s: true", short(l))
	}
	if s, e := Write(l); s != "" || e != api.ErrLock {
		t.Errorf("Write of %s: %s, %d", short(l), short(s), e)
	}
	if keys := Keys(l); len(keys) != 0 {
		t.Errorf("Keys of %s: %s", short(l), short(keys))
	}
	if Opens(l, opener(), "t1:m", math.MaxInt, math.MaxInt) {
		t.Errorf("Opens of %s: true", short(l))
	}
}

// wrongEverywhere asks it of a lock by itself, and of one within which it stands.
func wrongEverywhere(t *testing.T, l api.Lock) {
	t.Helper()
	isWrong(t, l)
	for _, kind := range []uint8{api.LAll, api.LAny} {
		isWrong(t, api.Lock{Kind: kind, Kids: []api.Lock{l}})
		isWrong(t, api.Lock{Kind: kind, Kids: []api.Lock{{Kind: api.LAfter}, l}})
		isWrong(t, api.Lock{Kind: kind, Kids: []api.Lock{l, {Kind: api.LAfter}}})
		isWrong(t, api.Lock{Kind: kind, Kids: []api.Lock{{Kind: kind, Kids: []api.Lock{{Kind: api.LAfter}, l}}, {Kind: api.LOlder}}})
	}
}

// unread asks that a text is no lock.
func unread(t *testing.T, s string) {
	t.Helper()
	if l, e := Read(s); e != api.ErrLock || !same(l, api.Lock{}) {
		t.Errorf("Read of %s: %s, %d", short(s), short(l), e)
	}
}

// opener opens what asks for Pn1; and Hn1;.
func opener() api.Witness {
	return api.Witness{Sigs: []api.Term{"Sn1;t1:m"}, Pres: []api.Term{"n1;"}}
}

func TestP11_1Kinds(t *testing.T) {
	for _, x := range []struct {
		l    api.Lock
		text string
	}{
		{api.Lock{Kind: api.LSig, Term: "Pn1;"}, "sPn1;"},
		{api.Lock{Kind: api.LSig, Term: "WPn1;Pn2;"}, "sWPn1;Pn2;"},
		{api.Lock{Kind: api.LSig, Term: "LPn1;t1:x"}, "sLPn1;t1:x"},
		{api.Lock{Kind: api.LPre, Term: "Hn1;"}, "pHn1;"},
		{api.Lock{Kind: api.LPre, Term: "HPn1;"}, "pHPn1;"},
		{api.Lock{Kind: api.LPre, Term: "HHn1;"}, "pHHn1;"},
		{api.Lock{Kind: api.LAfter}, "a0;"},
		{api.Lock{Kind: api.LAfter, N: 100}, "a100;"},
		{api.Lock{Kind: api.LOlder}, "o0;"},
		{api.Lock{Kind: api.LOlder, N: 6}, "o6;"},
		{api.Lock{Kind: api.LAll, Kids: []api.Lock{{Kind: api.LAfter}}}, "&1:a0;"},
		{api.Lock{Kind: api.LAny, Kids: []api.Lock{{Kind: api.LOlder, N: 7}}}, "|1:o7;"},
		{api.Lock{Kind: api.LAll, Kids: []api.Lock{{Kind: api.LAfter, N: 1}, {Kind: api.LAfter, N: 1}, {Kind: api.LSig, Term: "Pn1;"}}}, "&3:a1;a1;sPn1;"},
		{example(), exampleText},
	} {
		isRight(t, x.l, x.text)
	}
}

func TestP11_1OtherKinds(t *testing.T) {
	for k := range 256 {
		kind := uint8(k)
		if kind >= api.LSig && kind <= api.LAny {
			continue
		}
		for _, l := range []api.Lock{{}, {Term: "Pn1;"}, {Term: "Hn1;"}, {N: 1}, {Kids: []api.Lock{{Kind: api.LAfter}}}} {
			l.Kind = kind
			wrongEverywhere(t, l)
		}
	}
}

// TestP11_1OtherFields: what a kind does not name may be neither there, nor what another kind names.
func TestP11_1OtherFields(t *testing.T) {
	kid := []api.Lock{{Kind: api.LAfter}}
	for _, l := range []api.Lock{
		{Kind: api.LSig, Term: "Pn1;"}, {Kind: api.LPre, Term: "Hn1;"}, {Kind: api.LAfter, N: 3}, {Kind: api.LOlder, N: 3}, {Kind: api.LAfter}, {Kind: api.LOlder},
		{Kind: api.LAll, Kids: kid}, {Kind: api.LAny, Kids: kid},
	} {
		isRight(t, l, written(l))
		if l.Kids == nil {
			x := l
			x.Kids = []api.Lock{}
			isRight(t, x, written(l))
			for _, kids := range [][]api.Lock{kid, {{}}, make([]api.Lock, 9)} {
				x.Kids = kids
				wrongEverywhere(t, x)
			}
		}
		if l.Kind != api.LAfter && l.Kind != api.LOlder {
			for _, n := range []int{1, -1, 1 << 30, math.MinInt, math.MaxInt} {
				x := l
				x.N = n
				wrongEverywhere(t, x)
			}
		}
		if l.Kind > api.LPre {
			for _, p := range []api.Term{"Pn1;", "Hn1;", "n1;", "x", " ", "\x00"} {
				x := l
				x.Term = p
				wrongEverywhere(t, x)
			}
		}
	}
}

func TestP11_1Terms(t *testing.T) {
	keys := []api.Term{"Pn1;", "PPn1;", "PHVn1;n2;", "PDn1;t1:x", "Pt3:a1;", "PT0:", "PSn1;n2;", "WPn1;Pn2;", "WWPn1;Pn2;LPn3;n4;", "LPn1;t1:x", "LWPn1;Pn2;Bn1;n2;", sized("P", 16384), sized("LPn1;", 16384), nested("P", 64), nested("LPn1;", 64)}
	digests := []api.Term{"Hn1;", "HHn1;", "HPn1;", "Ht0:", "Ht5:|2:a1", "HT2:n1;n2;", "HVn1;n2;", "HKn1;n2;", "HXn10;n9;", sized("H", 16384), nested("H", 64)}
	others := []api.Term{"n1;", "t0:", "t4:Pn1;", "t4:Hn1;", "T1:Pn1;", "T1:Hn1;", "Sn1;n2;", "Bn1;Pn2;", "Xn1;n2;", "Dn1;n2;", "Vn1;n2;", "Kn1;n2;", "T0:"}
	wrong := []api.Term{"", "P", "H", "W", "L", "x", "\x00", "Pn1", "Hn1", "Pn01;", "Hn01;", "Pn1;;", "Hn1; ", " Pn1;", "Pn1;Pn2;", "Hn1;Hn2;", "PVn1;n2;", "PKn1;n2;", "Wn1;Pn2;", "WPn1;n2;", "WPn1;", "Ln1;n2;", "LPn1;", "PXn2;n1;", "HPVn1;n2;", "Pt2:x", "Ht1:xy", "HT33:" + api.Term(strings.Repeat("n1;", 33)),
		sized("P", 16385), sized("H", 16385), sized("LPn1;", 16385), nested("P", 65), nested("H", 65), nested("LPn1;", 65), api.Term(strings.Repeat("P", 1<<20)), api.Term(strings.Repeat("H", 1<<20))}
	for _, x := range keys {
		isRight(t, api.Lock{Kind: api.LSig, Term: x}, "s"+string(x))
		wrongEverywhere(t, api.Lock{Kind: api.LPre, Term: x})
		unread(t, "p"+string(x))
	}
	for _, x := range digests {
		isRight(t, api.Lock{Kind: api.LPre, Term: x}, "p"+string(x))
		wrongEverywhere(t, api.Lock{Kind: api.LSig, Term: x})
		unread(t, "s"+string(x))
	}
	for _, x := range slices.Concat(others, wrong) {
		for _, kind := range []uint8{api.LSig, api.LPre} {
			wrongEverywhere(t, api.Lock{Kind: kind, Term: x})
			unread(t, written(api.Lock{Kind: kind, Term: x}))
			unread(t, "|2:"+written(api.Lock{Kind: kind, Term: x})+"a0;")
		}
	}
}

func TestP11_1Numbers(t *testing.T) {
	for _, kind := range []uint8{api.LAfter, api.LOlder} {
		for _, n := range []int{0, 1, 9, 10, 99, 1 << 20, 1073741822, 1073741823} {
			l := api.Lock{Kind: kind, N: n}
			isRight(t, l, fmt.Sprintf("%c%d;", "ao"[kind-api.LAfter], n))
			isRight(t, api.Lock{Kind: api.LAny, Kids: []api.Lock{l, l}}, fmt.Sprintf("|2:%s%s", written(l), written(l)))
		}
		for _, n := range []int{-1, -2, 1073741824, 1073741825, 1 << 31, 1 << 32, 1<<32 + 1, math.MaxInt, math.MinInt, math.MinInt + 1} {
			wrongEverywhere(t, api.Lock{Kind: kind, N: n})
			unread(t, written(api.Lock{Kind: kind, N: n}))
		}
	}
}

func TestP11_1Kids(t *testing.T) {
	for _, kind := range []uint8{api.LAll, api.LAny} {
		wrongEverywhere(t, api.Lock{Kind: kind})
		wrongEverywhere(t, api.Lock{Kind: kind, Kids: []api.Lock{}})
		for n := 1; n <= 8; n++ {
			l := api.Lock{Kind: kind, Kids: slices.Repeat([]api.Lock{{Kind: api.LSig, Term: "Pn1;"}}, n)}
			isRight(t, l, fmt.Sprintf("%c%d:%s", "&|"[kind-api.LAll], n, strings.Repeat("sPn1;", n)))
		}
		for _, n := range []int{9, 10, 16, 63, 64, 65, 100, 1 << 20} {
			l := api.Lock{Kind: kind, Kids: slices.Repeat([]api.Lock{{Kind: api.LAfter}}, n)}
			wrongEverywhere(t, l)
			if n <= 100 {
				unread(t, written(l))
			}
		}
	}
}

func TestP11_1Parts(t *testing.T) {
	for _, kind := range []uint8{api.LAll, api.LAny} {
		for _, shape := range []func(uint8, int) api.Lock{deepLock, broadLock} {
			for _, parts := range []int{2, 9, 10, 62, 63, 64} {
				l := shape(kind, parts)
				if len(laid(l)) != parts {
					t.Fatalf("%d parts are %d", parts, len(laid(l)))
				}
				isRight(t, l, written(l))
			}
			for _, parts := range []int{65, 66, 70, 73} {
				isWrong(t, shape(kind, parts))
				unread(t, written(shape(kind, parts)))
			}
		}
		for _, parts := range []int{128, 1000, 1 << 16} {
			isWrong(t, deepLock(kind, parts))
		}
	}
	far := broadLock(api.LAny, 73)
	for range 8 {
		far = api.Lock{Kind: api.LAll, Kids: slices.Repeat([]api.Lock{far}, 8)}
	}
	isWrong(t, far)
}

// TestP11_1PartsAreCounted: the 65th part is one too many wherever it stands.
func TestP11_1PartsAreCounted(t *testing.T) {
	eight := All(slices.Repeat([]api.Lock{After(1)}, 7)...)
	kids := slices.Repeat([]api.Lock{eight}, 7)
	full := Any(append(slices.Clone(kids), deepLock(api.LAny, 7))...)
	isRight(t, full, "|8:"+strings.Repeat("&7:a1;a1;a1;a1;a1;a1;a1;", 7)+"|1:|1:|1:|1:|1:|1:a0;")
	for at := range full.Kids {
		l := Any(full.Kids...)
		l.Kids[at] = Any(l.Kids[at])
		isWrong(t, l)
		unread(t, written(l))
		l.Kids[at] = After(1)
		isRight(t, l, written(l))
	}
}

// TestP11_1WithinItself: a lock that stands within itself has no end, and is no right one.
func TestP11_1WithinItself(t *testing.T) {
	for _, kind := range []uint8{api.LAll, api.LAny} {
		for n := 1; n <= 8; n++ {
			kids := make([]api.Lock, n)
			for i := range kids {
				kids[i] = api.Lock{Kind: kind, Kids: kids}
			}
			l := api.Lock{Kind: kind, Kids: kids}
			for _, l := range []api.Lock{l, All(l), Any(After(0), l)} {
				if s, e := Write(l); Right(l) || s != "" || e != api.ErrLock || len(Keys(l)) != 0 || Opens(l, opener(), "t1:m", 9, 9) {
					t.Errorf("%d kids: taken", n)
				}
			}
		}
	}
}

func TestP11_2Examples(t *testing.T) {
	isRight(t, example(), exampleText)
	for _, s := range []string{"a07;", "&0:", "sn1;", "pPn1;", "a1;a2;"} {
		unread(t, s)
	}
}

// TestP11_2JustOneLock: a written lock ends where it ends; no piece of it, and nothing longer, is another one.
func TestP11_2JustOneLock(t *testing.T) {
	for _, s := range []string{
		exampleText, "sPn120;", "pHt12:abcdefghijkl", "a1073741823;", "o0;", "&1:|1:&1:a0;", "|8:a1;a2;a3;a4;o1;o2;sPn1;pHn1;",
		"&3:sWPn1;LPn2;t1:xpHT2:T0:T1:n1;sLPn1;Sn1;Bn1;Dn1;Vn1;Xn1;n2;", "|2:sPt0:pHT0:", written(broadLock(api.LAll, 64)), written(deepLock(api.LAny, 64)),
	} {
		if _, e := Read(s); e != api.OK {
			t.Errorf("Read of %s: %d", s, e)
		}
		for i := range s {
			unread(t, s[:i])
			unread(t, s[i+1:]+"\n")
		}
		for b := range 256 {
			unread(t, s+string([]byte{byte(b)}))
			unread(t, string([]byte{byte(b)})+s)
		}
		unread(t, s+s)
		unread(t, s+"a1;")
	}
}

func TestP11_2WrongTexts(t *testing.T) {
	for _, s := range []string{
		"", " ", "x", "\x00", "\xff", "s", "p", "a", "o", "&", "|", ";", ":", "0", "1", "n1;", "Pn1;", "Hn1;", "S", "SPn1;", "A1;", "O1;", "A", "?",
		"a;", "o;", "a1", "o1", "a1:", "o1:", "a 1;", "a1 ;", "a+1;", "a-1;", "a-0;", "a--1;", "a1.0;", "a1e3;", "a0x1;", "a1_0;", "a\x001;", "a/;", "a:;", "aa1;", "ao1;", "a1;;", "a٣;",
		"a00;", "a01;", "a07;", "a000;", "a0000000000000000000000001;", "o00;", "o06;",
		"a1073741824;", "o1073741824;", "a1073741830;", "a2147483647;", "a2147483648;", "a4294967295;", "a4294967296;", "a4294967297;", "a9223372036854775807;", "a9223372036854775808;", "a18446744073709551615;", "a18446744073709551616;", "a18446744073709551617;", "a99999999999999999999999999;",
		"&0:", "|0:", "&0:a1;", "&1:", "|1:", "&2:a1;", "|2:a1;", "&1:a1;a2;", "|1:a1;a2;", "&3:a1;a2;", "&:", "&:a1;", "&a1;", "&1a1;", "&1;a1;", "&01:a1;", "|01:a1;", "|08:a1;a1;a1;a1;a1;a1;a1;a1;", "&-1:a1;", "&+1:a1;", "& 1:a1;", "&1 :a1;", "&1: a1;", "&1:a1; ", "&2:a1; a2;", "&2:a1;,a2;", "&1:&0:", "|2:a1;&0:", "&1:&1:", "&2:&1:a1;",
		"&9:a1;a1;a1;a1;a1;a1;a1;a1;a1;", "|9:a1;a1;a1;a1;a1;a1;a1;a1;a1;", "&10:a1;a1;a1;a1;a1;a1;a1;a1;a1;a1;", "&8:a1;a1;a1;a1;a1;a1;a1;", "&7:a1;a1;a1;a1;a1;a1;a1;a1;", "&4294967297:a1;", "&18446744073709551617:a1;", "&99999999999999999999:a1;",
		"sn1;", "pPn1;", "sHn1;", "st4:Pn1;", "pt4:Hn1;", "sPn1", "pHn1", "sPn01;", "pHn01;", "sPn1;n2;", "s Pn1;", "sP", "pH", "sPVn1;n2;", "sWPn1;n2;", "sLn1;n2;", "sPn9223372036854775808;", "pHn9223372036854775808;", "sPt5:abc", "sPt-1:", "sPt03:abc", "sPT2:n1;", "sPT-1:", "sPT01:n1;", "pHXn2;n1;",
		"sPt4097:" + strings.Repeat("x", 4097), "pHT33:" + strings.Repeat("n1;", 33), "s" + string(sized("P", 16385)), "p" + string(sized("H", 16385)), "s" + string(nested("P", 65)), "p" + string(nested("H", 65)),
		"pHt99999999999999999999:x", "pHt18446744073709551617:x", "pHT18446744073709551617:n1;", "|2:sPn1;pPn1;", "|2:sn1;pHn1;", "|2:sHn1;a1;", "sPn1;pHn1;", "sPsPn1;", "&1:sPn1;;", "|1:pHn1;\x00",
	} {
		unread(t, s)
		unread(t, "|1:"+s)
		unread(t, "&2:a1;"+s)
	}
}

// TestP11_2TermsWithin: texts within terms that look like locks, or their ends, are passed over; each op is read up to its end.
func TestP11_2TermsWithin(t *testing.T) {
	for _, x := range []api.Term{
		"n0;", "n9223372036854775807;", "t0:", "t1:;", "t3:a1;", "t5:&2:a1", "t9:\x00\xff|1:sPn1", "T0:", "T1:n1;", "T3:t1:;T2:n1;n2;t0:", "Pn1;", "Hn1;", "Sn1;t3:n2;", "Bt1:sn1;", "Xn1;n2;", "Dn1;t1:o", "Vn1;n2;", "WPn1;Pn2;", "Kn1;Pn2;", "LPn1;n2;",
		"T32:" + api.Term(strings.Repeat("n1;", 32)), "t4096:" + api.Term(strings.Repeat(";", 4096)), "BSXn1;n2;n3;Dn4;Vn5;n6;",
	} {
		for _, head := range []api.Term{"H", "HH", "HT1:", "HBn1;"} {
			isRight(t, api.Lock{Kind: api.LPre, Term: head + x}, "p"+string(head+x))
		}
		l := All(Pre("H"+x), Sig("LPn1;"+x), Pre("H"+x), After(1), Any(Sig("LWPn1;Pn2;"+x)), Older(2))
		isRight(t, l, fmt.Sprintf("&6:pH%ssLPn1;%spH%sa1;|1:sLWPn1;Pn2;%so2;", x, x, x, x))
	}
	long := All(slices.Repeat([]api.Lock{Sig(sized("P", 16384)), Pre(sized("H", 16384)), Sig(nested("P", 64)), Pre(nested("H", 64))}, 2)...)
	isRight(t, long, "&8:"+strings.Repeat("s"+string(sized("P", 16384))+"p"+string(sized("H", 16384))+"s"+string(nested("P", 64))+"p"+string(nested("H", 64)), 2))
}

// TestP11_2AllSmallTexts: the right locks of up to five of these pieces, made by the forms alone, beside all rows of so many pieces.
func TestP11_2AllSmallTexts(t *testing.T) {
	const most = 5
	pieces := []string{"sPn1;", "pHn1;", "s", "p", "Pn1;", "Hn1;", "a", "o", "0;", "1;", "01;", "&1:", "&2:", "|2:", "&0:"}
	right := map[string]bool{}
	var by [most + 1][]string
	put := func(n int, s string) {
		right[s] = true
		by[n] = append(by[n], s)
	}
	put(1, "sPn1;")
	put(1, "pHn1;")
	for _, s := range []string{"sPn1;", "pHn1;", "a0;", "a1;", "o0;", "o1;"} {
		put(2, s)
	}
	for n := 2; n <= most; n++ {
		for _, s := range by[n-1] {
			put(n, "&1:"+s)
		}
		for a := 1; a < n-1; a++ {
			for _, s := range by[a] {
				for _, u := range by[n-1-a] {
					put(n, "&2:"+s+u)
					put(n, "|2:"+s+u)
				}
			}
		}
	}
	var row func(s string, left int)
	row = func(s string, left int) {
		l, e := Read(s)
		if (e == api.OK) != right[s] || e == api.OK && written(l) != s || e != api.OK && (e != api.ErrLock || !same(l, api.Lock{})) {
			t.Fatalf("Read of %s: %s, %d", s, short(l), e)
		}
		for _, p := range pieces[:min(len(pieces), left*len(pieces))] {
			row(s+p, left-1)
		}
	}
	row("", most)
	if len(right) < 200 {
		t.Errorf("%d right ones: too few", len(right))
	}
}

func TestP11_2HugeTextsEnd(t *testing.T) {
	for _, s := range []string{"s", "p", "a", "o", "&", "|", "&8:", "|8:", "&1:", "|1:", "a1;", "a0", "a9", "9", "0", "sP", "pH", "sPn1;", "sW", "sPT32:", "sPt4096:", "sPn", "pHn9", ";", ":", "\x00", "&8:sPT32:"} {
		unread(t, strings.Repeat(s, 1<<20))
		unread(t, s+strings.Repeat("9", 1<<20)+";")
		unread(t, s+strings.Repeat("0", 1<<20)+"1;")
		unread(t, "s"+strings.Repeat(s, 1<<20))
		unread(t, "pH"+strings.Repeat(s, 1<<20))
		unread(t, "|8:"+strings.Repeat("sPT32:"+strings.Repeat("P", 1<<14), 8))
	}
}

func opensAs(t *testing.T, want bool, l api.Lock, w api.Witness, msg api.Term, after, age int) {
	t.Helper()
	if Opens(l, w, msg, after, age) != want {
		t.Errorf("Opens(%s, %s, %s, %d, %d): not %t", short(written(l)), short(w), short(msg), after, age, want)
	}
	checkOpens(t, l, w, msg, after, age)
}

func sigs(l ...api.Term) api.Witness { return api.Witness{Sigs: l} }

func pres(l ...api.Term) api.Witness { return api.Witness{Pres: l} }

func TestP11_3Examples(t *testing.T) {
	opensAs(t, true, example(), pres("n2;"), "t1:m", 0, 6)
	opensAs(t, false, example(), pres("n2;"), "t1:m", 0, 5)
	opensAs(t, false, example(), pres("n3;"), "t1:m", 0, 6)
	opensAs(t, true, example(), sigs("Sn1;t1:m"), "t1:m", 0, 0)
	opensAs(t, false, example(), api.Witness{}, "t1:m", 0, 0)
}

func TestP11_3Signatures(t *testing.T) {
	for _, x := range []struct {
		key    api.Term
		secret api.Term
	}{{"Pn1;", "n1;"}, {"PHn1;", "Hn1;"}, {"WPn1;Pn2;", "Vn1;n2;"}, {"LPn1;t1:x", "Kn1;t1:x"}, {"WLPn1;t1:x" + "Pn2;", "VKn1;t1:xn2;"}} {
		l := Sig(x.key)
		right := "S" + x.secret + "t1:m"
		opensAs(t, true, l, sigs(right), "t1:m", 0, 0)
		opensAs(t, true, l, sigs("Sn9;t1:m", "", right), "t1:m", -1, -1)
		opensAs(t, true, l, sigs(right, right), "t1:m", math.MaxInt, math.MaxInt)
		for _, s := range []api.Term{
			"", "x", "t1:m", x.secret, x.key, right[:len(right)-1], right + ";", "S" + x.secret + "t1:x", "S" + x.secret + "Ht1:m", "Sn9;t1:m", "S" + x.key + "t1:m", "SH" + x.secret + "t1:m", "S" + x.secret, "St1:m" + x.secret, "B" + x.secret + "t1:m", "H" + right, "T1:" + right, "Sn2;t1:m", "SVn2;n1;t1:m", "SKn1;t1:yt1:m",
		} {
			opensAs(t, false, l, sigs(s), "t1:m", math.MaxInt, math.MaxInt)
			opensAs(t, true, l, sigs(s, right, s), "t1:m", 0, 0)
		}
		opensAs(t, false, l, sigs(right), "t1:x", 0, 0)
		opensAs(t, false, l, sigs(right), "", 0, 0)
		opensAs(t, false, l, sigs("S"+x.secret), "", 0, 0)
		opensAs(t, false, l, sigs("S"+x.secret+"x"), "x", 0, 0)
		opensAs(t, false, l, pres(right), "t1:m", 0, 0)
		opensAs(t, false, l, pres(x.secret), "t1:m", 0, 0)
		opensAs(t, false, l, api.Witness{}, "t1:m", 0, 0)
	}
}

func TestP11_3SignaturesAtTheLimits(t *testing.T) {
	msg := api.Term("t1:m")
	long := sized("", 16384-len("S")-len(msg))
	opensAs(t, true, Sig("P"+long), sigs("S"+long+msg), msg, 0, 0)
	long = sized("", 16384-len("S")-len(msg)+1)
	opensAs(t, false, Sig("P"+long), sigs("S"+long+msg), msg, 0, 0)
	deep := hashes(63)
	opensAs(t, true, Sig("P"+deep), sigs("S"+deep+msg), msg, 0, 0)
	opensAs(t, false, Sig("PH"+deep), sigs("SH"+deep+msg), msg, 0, 0)
	opensAs(t, true, Sig("Pn1;"), sigs("Sn1;"+deep), deep, 0, 0)
	opensAs(t, false, Sig("Pn1;"), sigs("Sn1;H"+deep), "H"+deep, 0, 0)
	big := sized("", 16384-len("Sn1;"))
	opensAs(t, true, Sig("Pn1;"), sigs("Sn1;"+big), big, 0, 0)
	big = sized("", 16384-len("Sn1;")+1)
	opensAs(t, false, Sig("Pn1;"), sigs("Sn1;"+big), big, 0, 0)
}

func TestP11_3Preimages(t *testing.T) {
	for _, x := range []api.Term{"n1;", "n0;", "t0:", "t2:ab", "T0:", "T2:n1;n2;", "Pn1;", "Hn1;", "Vn1;n2;", "Xn10;n9;", sized("", 16383), hashes(63)} {
		l := Pre("H" + x)
		opensAs(t, true, l, pres(x), "t1:m", 0, 0)
		opensAs(t, true, l, pres("", "n9;", x), "", -1, -1)
		opensAs(t, true, l, pres(x, x), "no term", 0, 0)
		for _, p := range []api.Term{"", "x", "n9;", "H" + x, "HH" + x, x + ";", x + x, " " + x, x[:len(x)-1], x[1:], "T1:" + x, "P" + x} {
			opensAs(t, false, l, pres(p), "t1:m", math.MaxInt, math.MaxInt)
			opensAs(t, true, l, pres(p, x, p), "t1:m", 0, 0)
		}
		opensAs(t, false, l, sigs(x), "t1:m", 0, 0)
		opensAs(t, false, l, sigs("Sn1;"+x), x, 0, 0)
		opensAs(t, false, l, api.Witness{}, x, 0, 0)
	}
	opensAs(t, false, Pre("Hx"), pres("x"), "t1:m", 0, 0)
	opensAs(t, false, Pre("H"), pres(""), "t1:m", 0, 0)
	opensAs(t, false, Pre(""), pres("", "n1;", hashes(64), sized("", 16384)), "t1:m", 0, 0)
	opensAs(t, false, Pre(sized("H", 16385)), pres(sized("", 16384)), "t1:m", 0, 0)
	opensAs(t, false, Pre(hashes(65)), pres(hashes(64)), "t1:m", 0, 0)
	opensAs(t, false, Pre("Pn1;"), pres("n1;"), "t1:m", 0, 0)
	opensAs(t, false, Pre("Hn1;"), pres(sized("", 16384), hashes(64), hashes(65)), "t1:m", 0, 0)
}

func TestP11_3Times(t *testing.T) {
	for _, n := range []int{0, 1, 5, 1 << 20, 1073741822, 1073741823} {
		for _, x := range []int{math.MinInt, -1 << 32, -1073741824, -1, 0, 1, n - 2, n - 1, n, n + 1, n + 2, 1073741824, 1 << 32, math.MaxInt} {
			for _, other := range []int{math.MinInt, -1, 0, n - 1, n, n + 1, math.MaxInt} {
				opensAs(t, x >= n, After(n), api.Witness{}, "t1:m", x, other)
				opensAs(t, x >= n, Older(n), api.Witness{}, "t1:m", other, x)
			}
		}
	}
	for _, n := range []int{-1, math.MinInt, 1073741824, math.MaxInt} {
		opensAs(t, false, After(n), opener(), "t1:m", math.MaxInt, math.MaxInt)
		opensAs(t, false, Older(n), opener(), "t1:m", math.MaxInt, math.MaxInt)
	}
}

// TestP11_3Mixed: all and any of leaves that open or do not, in each way they may.
func TestP11_3Mixed(t *testing.T) {
	leaves := []api.Lock{Sig("Pn1;"), Pre("Hn1;"), After(5), Older(5), Sig("Pn2;"), Pre("Hn2;"), After(6), Older(6)}
	for n := 1; n <= 8; n++ {
		for choice := range 1 << n {
			kids, open := make([]api.Lock, n), 0
			for i := range kids {
				shut := choice >> i & 1
				kids[i] = leaves[(i+choice)%4+4*shut]
				open += 1 - shut
			}
			opensAs(t, open == n, All(kids...), opener(), "t1:m", 5, 5)
			opensAs(t, open > 0, Any(kids...), opener(), "t1:m", 5, 5)
			opensAs(t, open == n, Any(After(6), All(kids...)), opener(), "t1:m", 5, 5)
			opensAs(t, open > 0, All(After(5), Any(kids...)), opener(), "t1:m", 5, 5)
		}
	}
	opensAs(t, true, deepLock(api.LAll, 64), api.Witness{}, "", 0, 0)
	opensAs(t, true, deepLock(api.LAny, 64), api.Witness{}, "", 0, 0)
	opensAs(t, false, deepLock(api.LAny, 64), api.Witness{}, "", -1, 0)
	opensAs(t, false, deepLock(api.LAny, 65), api.Witness{}, "", 0, 0)
}

func TestP11_3Witnesses(t *testing.T) {
	many := func(n int, last api.Term) []api.Term { return append(slices.Repeat([]api.Term{"n9;"}, n-1), last) }
	for _, n := range []int{1, 15, 16} {
		opensAs(t, true, Sig("Pn1;"), sigs(many(n, "Sn1;t1:m")...), "t1:m", 0, 0)
		opensAs(t, true, Pre("Hn1;"), pres(many(n, "n1;")...), "t1:m", 0, 0)
		opensAs(t, true, All(Sig("Pn1;"), Pre("Hn1;")), api.Witness{Sigs: many(n, "Sn1;t1:m"), Pres: many(n, "n1;")}, "t1:m", 0, 0)
	}
	for _, n := range []int{17, 18, 33, 256, 1 << 16} {
		for _, w := range []api.Witness{
			{Sigs: append([]api.Term{"Sn1;t1:m"}, many(n-1, "n9;")...)}, {Pres: append([]api.Term{"n1;"}, many(n-1, "n9;")...)}, {Sigs: slices.Repeat([]api.Term{"Sn1;t1:m"}, n), Pres: []api.Term{"n1;"}}, {Sigs: []api.Term{"Sn1;t1:m"}, Pres: slices.Repeat([]api.Term{"n1;"}, n)}, {Sigs: make([]api.Term, n)}, {Pres: make([]api.Term, n)},
		} {
			for _, l := range []api.Lock{Sig("Pn1;"), Pre("Hn1;"), After(0), Older(0), Any(After(0), Sig("Pn1;"), Pre("Hn1;"))} {
				opensAs(t, false, l, w, "t1:m", 9, 9)
			}
		}
	}
	opensAs(t, true, After(0), api.Witness{Sigs: make([]api.Term, 16), Pres: make([]api.Term, 16)}, "", 0, 0)
	opensAs(t, true, After(0), api.Witness{Sigs: []api.Term{}, Pres: []api.Term{}}, "", 0, 0)
}

func TestP11_3WrongLocks(t *testing.T) {
	for _, l := range []api.Lock{
		{}, {Kind: 7}, Sig("n1;"), Sig(""), Pre("Pn1;"), Pre(""), After(-1), Older(-1), All(), Any(), {Kind: api.LAfter, Term: "Pn1;"}, {Kind: api.LSig, Term: "Pn1;", N: 1}, {Kind: api.LAfter, Kids: []api.Lock{After(0)}},
		{Kind: api.LAny, N: 1, Kids: []api.Lock{After(0)}}, {Kind: api.LAll, Term: "t0:", Kids: []api.Lock{After(0)}}, All(slices.Repeat([]api.Lock{After(0)}, 9)...), Any(slices.Repeat([]api.Lock{After(0)}, 9)...), deepLock(api.LAll, 65), broadLock(api.LAny, 65),
	} {
		opensAs(t, false, l, opener(), "t1:m", math.MaxInt, math.MaxInt)
		opensAs(t, false, Any(After(0), l), opener(), "t1:m", math.MaxInt, math.MaxInt)
		opensAs(t, false, All(After(0), l), opener(), "t1:m", math.MaxInt, math.MaxInt)
	}
}

func TestP11_4Keys(t *testing.T) {
	for _, x := range []struct {
		l    api.Lock
		keys []api.Term
	}{
		{example(), []api.Term{"Pn1;"}},
		{Sig("Pn1;"), []api.Term{"Pn1;"}},
		{Pre("HPn1;"), nil}, {After(1), nil}, {Older(1), nil}, {Any(Pre("Hn1;"), All(After(1))), nil},
		{All(Sig("Pn2;"), Sig("Pn1;"), Sig("Pn2;")), []api.Term{"Pn2;", "Pn1;", "Pn2;"}},
		{Any(Any(Any(Sig("WPn1;Pn2;")), Sig("Pn5;")), Pre("HPn9;"), Sig("LPn1;t4:Pn7;"), All(After(1), Sig("Pn3;"), Any(Sig("Pn1;"), Sig("Pn1;")))), []api.Term{"WPn1;Pn2;", "Pn5;", "LPn1;t4:Pn7;", "Pn3;", "Pn1;", "Pn1;"}},
		{Any(Sig("Pn1;"), Sig("n1;")), nil}, {Any(Sig("Pn1;"), After(-1)), nil}, {Any(Sig("Pn1;"), All()), nil}, {Any(slices.Repeat([]api.Lock{Sig("Pn1;")}, 9)...), nil},
		{api.Lock{Kind: api.LSig, Term: "Pn1;", N: 1}, nil}, {api.Lock{Kind: 9, Kids: []api.Lock{Sig("Pn1;")}}, nil}, {api.Lock{}, nil}, {Sig("Hn1;"), nil}, {Sig("Pn1"), nil},
	} {
		if keys := Keys(x.l); !slices.Equal(keys, x.keys) {
			t.Errorf("Keys of %s: %v, want %v", short(x.l), keys, x.keys)
		}
	}
	var want []api.Term
	full := api.Lock{Kind: api.LAny}
	for i := range 7 {
		k := api.Lock{Kind: api.LAll}
		for j := range 8 {
			key := api.Term(fmt.Sprintf("Pn%d;", 90-8*i-j))
			k.Kids, want = append(k.Kids, Sig(key)), append(want, key)
		}
		full.Kids = append(full.Kids, k)
	}
	if keys := Keys(full); len(want) != 56 || !slices.Equal(keys, want) {
		t.Errorf("Keys of %d: %v", len(want), keys)
	}
}

func TestP11_5Makers(t *testing.T) {
	for _, p := range []api.Term{"Pn1;", "Hn1;", "n1;", "", "x", "\x00\xff", sized("P", 16384), sized("P", 16385), api.Term(strings.Repeat("P", 1<<20))} {
		if l := Sig(p); !same(l, api.Lock{Kind: api.LSig, Term: p}) {
			t.Errorf("Sig(%s): %s", short(p), short(l))
		}
		if l := Pre(p); !same(l, api.Lock{Kind: api.LPre, Term: p}) {
			t.Errorf("Pre(%s): %s", short(p), short(l))
		}
	}
	for _, n := range []int{0, 1, -1, 1073741823, 1073741824, math.MaxInt, math.MinInt} {
		if l := After(n); !same(l, api.Lock{Kind: api.LAfter, N: n}) {
			t.Errorf("After(%d): %s", n, short(l))
		}
		if l := Older(n); !same(l, api.Lock{Kind: api.LOlder, N: n}) {
			t.Errorf("Older(%d): %s", n, short(l))
		}
	}
	odd := api.Lock{Kind: 77, Term: "no term", N: -5, Kids: []api.Lock{{Kind: 1, N: 3}, {Kids: []api.Lock{{}}}}}
	for _, kids := range [][]api.Lock{nil, {}, {{}}, {After(1)}, {odd}, {Sig("x"), odd, All(), odd}, {example(), example()}, slices.Repeat([]api.Lock{After(-1)}, 9), make([]api.Lock, 1000), {deepLock(api.LAny, 1000)}, {deepLock(5, 1<<16)}} {
		if l := All(kids...); !same(l, api.Lock{Kind: api.LAll, Kids: kids}) {
			t.Errorf("All(%s): %s", short(kids), short(l))
		}
		if l := Any(kids...); !same(l, api.Lock{Kind: api.LAny, Kids: kids}) {
			t.Errorf("Any(%s): %s", short(kids), short(l))
		}
	}
}
