package tx

import (
	"fmt"
	"math"
	"slices"
	"strings"
	"testing"

	"sluiceway/api"
	"sluiceway/lock"
	"sluiceway/term"
)

// id is of 64 times a digit.
func id(digit string) string { return strings.Repeat(digit, 64) }

// bare and plain are the chapter's.
func bare() api.Tx { return api.Tx{Outs: []api.Out{{Value: 5, Lock: lock.Older(1)}}} }

func plain() api.Tx {
	return api.Tx{Ins: []api.In{{Point: api.Point{Tx: id("1"), N: 2}, Age: 3}}, Outs: []api.Out{{Value: 5, Lock: lock.Older(1)}}, After: 7, Tag: 9}
}

const bareText = "x0;0;0:1:5;o1;"

func plainText() string { return "x7;9;1:" + id("1") + "2;3;1:5;o1;" }

// manyIns are unlike ones.
func manyIns(n int) []api.In {
	ins := make([]api.In, n)
	for i := range ins {
		ins[i] = api.In{Point: api.Point{Tx: fmt.Sprintf("%064x", i/2), N: i % 2 * 63}, Age: i}
	}
	return ins
}

func manyOuts(n int) []api.Out {
	return slices.Repeat([]api.Out{{Value: 3, Lock: lock.Sig("Pn1;")}}, n)
}

func noWits(n int) []api.Witness { return make([]api.Witness, n) }

// isRight asks that a transaction is right, and written so, by all calls.
func isRight(t *testing.T, x api.Tx, text string) {
	t.Helper()
	if !Right(x) {
		t.Errorf("Right of %s: false", short(x))
	}
	if s, e := Write(x); s != text || e != api.OK {
		t.Errorf("Write of %s: %s, %d; want %s", short(x), short(s), e, short(text))
	}
	if back, e := Read(text); e != api.OK || !same(back, x) {
		t.Errorf("Read of %s: %s, %d; want %s", short(text), short(back), e, short(x))
	}
	if !Whole(api.Signed{Tx: x, Wits: noWits(len(x.Ins))}) {
		t.Errorf("Whole of %s: false", short(x))
	}
	check(t, x)
}

// isWrong asks that it is none, by all calls, and by its text.
func isWrong(t *testing.T, x api.Tx) {
	t.Helper()
	signed := api.Signed{Tx: x, Wits: noWits(len(x.Ins))}
	if Right(x) || Whole(signed) {
		t.Errorf("%s is right", short(x))
	}
	if s, e := Write(x); s != "" || e != api.ErrTx {
		t.Errorf("Write of %s: %s, %d", short(x), short(s), e)
	}
	if s, e := WriteSigned(signed); s != "" || e != api.ErrTx {
		t.Errorf("WriteSigned of %s: %s, %d", short(x), short(s), e)
	}
	if s, e := ID(x); s != "" || e != api.ErrTx {
		t.Errorf("ID of %s: %s, %d", short(x), s, e)
	}
	if m, e := Msg(x); m != "" || e != api.ErrTx {
		t.Errorf("Msg of %s: %s, %d", short(x), m, e)
	}
	for _, k := range []api.Term{"n1;", "", "no term"} {
		if s, e := Sign(x, k); s != "" || e != api.ErrTx {
			t.Errorf("Sign of %s by %q: %s, %d", short(x), k, s, e)
		}
	}
	if n := Total(x); n != 0 {
		t.Errorf("Total of %s: %d", short(x), n)
	}
	for i := range min(len(x.Ins), 3) {
		if Opens(signed, i, lock.After(0)) {
			t.Errorf("Opens of %s at %d: true", short(x), i)
		}
	}
}

// wrongAndUnread asks it of a transaction whose text says all that is wrong.
func wrongAndUnread(t *testing.T, x api.Tx) {
	t.Helper()
	isWrong(t, x)
	unread(t, written(x))
	unreadSigned(t, writtenSigned(api.Signed{Tx: x, Wits: noWits(len(x.Ins))}))
}

func unread(t *testing.T, s string) {
	t.Helper()
	if x, e := Read(s); e != api.ErrTx || !same(x, api.Tx{}) {
		t.Errorf("Read of %s: %s, %d", short(s), short(x), e)
	}
}

func unreadSigned(t *testing.T, s string) {
	t.Helper()
	if x, e := ReadSigned(s); e != api.ErrTx || !sameSigned(x, api.Signed{}) {
		t.Errorf("ReadSigned of %s: %s, %d", short(s), short(x), e)
	}
}

// isWhole asks that it is whole, and written so; isNotWhole that it is not, by all calls.
func isWhole(t *testing.T, x api.Signed, text string) {
	t.Helper()
	if !Whole(x) {
		t.Errorf("Whole of %s: false", short(x))
	}
	if s, e := WriteSigned(x); s != text || e != api.OK {
		t.Errorf("WriteSigned of %s: %s, %d; want %s", short(x), short(s), e, short(text))
	}
	if back, e := ReadSigned(text); e != api.OK || !sameSigned(back, x) {
		t.Errorf("ReadSigned of %s: %s, %d; want %s", short(text), short(back), e, short(x))
	}
	for i := range x.Tx.Ins {
		if !Opens(x, i, lock.After(0)) {
			t.Errorf("Opens of %s at %d: false", short(x), i)
		}
	}
}

func isNotWhole(t *testing.T, x api.Signed) {
	t.Helper()
	if Whole(x) {
		t.Errorf("Whole of %s: true", short(x))
	}
	if s, e := WriteSigned(x); s != "" || e != api.ErrTx {
		t.Errorf("WriteSigned of %s: %s, %d", short(x), short(s), e)
	}
	for i := range x.Tx.Ins {
		if Opens(x, i, lock.After(0)) {
			t.Errorf("Opens of %s at %d: true", short(x), i)
		}
	}
	unreadSigned(t, writtenSigned(x))
}

func TestExamples(t *testing.T) {
	isRight(t, bare(), bareText)
	isRight(t, plain(), plainText())
	for _, s := range []string{"x0;0;0:0:", "x00;0;0:1:5;o1;", "x0;0;0:1:0;o1;"} {
		unread(t, s)
	}
	if a, b := Weight(1, 2), Weight(-1, 1); a != 500 || b != 0 {
		t.Errorf("Weight: %d, %d", a, b)
	}
	if n := Total(api.Tx{Outs: []api.Out{{Value: 5, Lock: lock.Older(1)}, {Value: 6, Lock: lock.Older(1)}}}); n != 11 {
		t.Errorf("Total: %d", n)
	}
}

func TestP12_1Ins(t *testing.T) {
	for _, n := range []int{0, 1, 2, 10, 63, 64} {
		x := bare()
		x.Ins = manyIns(n)
		isRight(t, x, written(x))
		if n > 0 && !strings.HasPrefix(written(x), fmt.Sprintf("x0;0;%d:%s0;0;", n, id("0"))) {
			t.Errorf("%s", written(x))
		}
	}
	x := bare()
	x.Ins = []api.In{}
	isRight(t, x, bareText)
	for _, n := range []int{65, 66, 100, 128} {
		x.Ins = manyIns(n)
		wrongAndUnread(t, x)
	}
	x.Ins = make([]api.In, 1<<20)
	isWrong(t, x)
}

func TestP12_1PointsTwice(t *testing.T) {
	for _, n := range []int{2, 3, 64} {
		for _, pair := range [][2]int{{0, 1}, {0, n - 1}, {n - 2, n - 1}, {n / 2, 0}} {
			x := plain()
			x.Ins = manyIns(n)
			if pair[0] == pair[1] {
				continue
			}
			x.Ins[pair[1]].Point = x.Ins[pair[0]].Point
			wrongAndUnread(t, x)
			x.Ins[pair[1]].Age = 77
			wrongAndUnread(t, x)
		}
	}
	x := plain()
	x.Ins = []api.In{{Point: api.Point{Tx: id("1"), N: 2}, Age: 3}, {Point: api.Point{Tx: id("1"), N: 3}, Age: 3}, {Point: api.Point{Tx: id("2"), N: 2}, Age: 3}, {Point: api.Point{Tx: id("1")[:63] + "2", N: 2}, Age: 3}}
	isRight(t, x, "x7;9;4:"+id("1")+"2;3;"+id("1")+"3;3;"+id("2")+"2;3;"+id("1")[:63]+"22;3;1:5;o1;")
}

// eachIn asks of a transaction with one In, and of one of three whose place is changed.
func eachIn(change func(*api.In), ask func(api.Tx)) {
	x := plain()
	change(&x.Ins[0])
	ask(x)
	for at := range 3 {
		x := plain()
		x.Ins = manyIns(3)
		change(&x.Ins[at])
		ask(x)
	}
}

func TestP12_1PointsTx(t *testing.T) {
	for _, s := range []string{id("0"), id("9"), id("a"), id("f"), strings.Repeat("0123456789abcdef", 4)} {
		eachIn(func(in *api.In) { in.Point = api.Point{Tx: s, N: 5} }, func(x api.Tx) { isRight(t, x, written(x)) })
	}
	for _, s := range []string{"", "1", id("1")[1:], id("1") + "1", id("1") + id("1"), strings.Repeat("é", 32), strings.Repeat("é", 64), id("A"), id("F"), id("g"), id(" "), id("\x00"), id(";")} {
		eachIn(func(in *api.In) { in.Point.Tx = s }, func(x api.Tx) { isWrong(t, x) })
	}
	for b := range 256 {
		for _, at := range []int{0, 1, 31, 62, 63} {
			s := []byte(id("1"))
			s[at] = byte(b)
			x := plain()
			x.Ins[0].Point.Tx = string(s)
			if b >= '0' && b <= '9' || b >= 'a' && b <= 'f' {
				isRight(t, x, written(x))
			} else {
				wrongAndUnread(t, x)
			}
		}
	}
	// In a text the 64 digits are told by their number: one less takes a digit of N, one more gives it one.
	unread(t, "x7;9;1:"+id("1")[1:]+"2;3;1:5;o1;")
	x := plain()
	x.Ins[0].Point.N = 12
	isRight(t, x, "x7;9;1:"+id("1")+"12;3;1:5;o1;")
	unread(t, "x7;9;1:"+id("1")+"112;3;1:5;o1;")
}

// numbers asks of one that is a transaction's which of these may be, where most is the greatest.
func numbers[T int | int64](t *testing.T, most T, put func(*api.Tx, T), text string) {
	t.Helper()
	for _, n := range []T{0, 1, 2, 9, 10, most / 2, most - 1, most} {
		x := plain()
		put(&x, n)
		isRight(t, x, strings.ReplaceAll(text, "#", fmt.Sprint(n)))
	}
	for _, n := range []T{-1, -2, -most, most + 1, most + 2, most + most/2, math.MaxInt64, math.MinInt64, math.MinInt64 + 1} {
		x := plain()
		put(&x, n)
		wrongAndUnread(t, x)
		if s := strings.ReplaceAll(text, "#", fmt.Sprint(n)); s != written(x) {
			t.Errorf("%s is written %s", s, written(x))
		}
	}
	for _, s := range []string{"", " ", "00", "01", "007", "+1", "-0", "1_0", "0x1", "1.0", "1e1", " 1", "1 ", "1;1", "1:", "a", "/", ":", "18446744073709551616", "18446744073709551617", "9223372036854775808", "-9223372036854775809", strings.Repeat("9", 100), strings.Repeat("0", 100), "\x001", "٣"} {
		unread(t, strings.ReplaceAll(text, "#", s))
		unreadSigned(t, strings.ReplaceAll(text, "#", s)+"w0:0:")
	}
}

func TestP12_1N(t *testing.T) {
	numbers(t, 63, func(x *api.Tx, n int) { x.Ins[0].Point.N = n }, "x7;9;1:"+id("1")+"#;3;1:5;o1;")
}

func TestP12_1Age(t *testing.T) {
	numbers(t, 1073741823, func(x *api.Tx, n int) { x.Ins[0].Age = n }, "x7;9;1:"+id("1")+"2;#;1:5;o1;")
}

func TestP12_1After(t *testing.T) {
	numbers(t, 1073741823, func(x *api.Tx, n int) { x.After = n }, "x#;9;1:"+id("1")+"2;3;1:5;o1;")
}

func TestP12_1Tag(t *testing.T) {
	numbers(t, int64(1)<<62, func(x *api.Tx, n int64) { x.Tag = n }, "x7;#;1:"+id("1")+"2;3;1:5;o1;")
	x := bare()
	x.Tag = 1 << 62
	isRight(t, x, "x0;4611686018427387904;0:1:5;o1;")
	x.Tag++
	wrongAndUnread(t, x)
	unread(t, "x0;4611686018427387905;0:1:5;o1;")
	unread(t, "x0;4611686018427387910;0:1:5;o1;")
}

func TestP12_1OtherIns(t *testing.T) {
	for _, n := range []int{-1, 64, math.MinInt, math.MaxInt} {
		eachIn(func(in *api.In) { in.Point.N = n }, func(x api.Tx) { wrongAndUnread(t, x) })
	}
	for _, n := range []int{-1, 1 << 30, math.MinInt, math.MaxInt} {
		eachIn(func(in *api.In) { in.Age = n }, func(x api.Tx) { wrongAndUnread(t, x) })
	}
}

func TestP12_1Outs(t *testing.T) {
	for _, n := range []int{1, 2, 10, 63, 64} {
		for _, x := range []api.Tx{bare(), plain()} {
			x.Outs = manyOuts(n)
			isRight(t, x, written(x))
			if !strings.HasSuffix(written(x), fmt.Sprintf(";%d:", n)+strings.Repeat("3;sPn1;", n)) && len(x.Ins) > 0 {
				t.Errorf("%s", written(x))
			}
		}
	}
	for _, n := range []int{0, 65, 66, 100, 128} {
		for _, x := range []api.Tx{bare(), plain()} {
			x.Outs = manyOuts(n)
			wrongAndUnread(t, x)
		}
	}
	x := plain()
	for _, outs := range [][]api.Out{nil, {}, make([]api.Out, 1), make([]api.Out, 1<<20)} {
		x.Outs = outs
		isWrong(t, x)
	}
}

func withValues(values ...int64) api.Tx {
	x := plain()
	x.Outs = nil
	for _, v := range values {
		x.Outs = append(x.Outs, api.Out{Value: v, Lock: lock.Older(1)})
	}
	return x
}

func TestP12_1Values(t *testing.T) {
	const all = 2100000000000000
	numbersOf := func(v int64) string { return fmt.Sprintf("x7;9;1:%s2;3;1:%d;o1;", id("1"), v) }
	for _, v := range []int64{1, 2, 9, 10, all / 2, all - 1, all} {
		isRight(t, withValues(v), numbersOf(v))
	}
	for _, v := range []int64{0, -1, -all, all + 1, 2 * all, 1 << 62, math.MaxInt64, math.MinInt64} {
		wrongAndUnread(t, withValues(v))
		unread(t, numbersOf(v))
		for at := range 3 {
			l := []int64{1, 1, 1}
			l[at] = v
			wrongAndUnread(t, withValues(l...))
		}
	}
	for _, s := range []string{"", "00", "05", "+5", " 5", "5 ", "a", "18446744073709551621", strings.Repeat("9", 99)} {
		unread(t, "x7;9;1:"+id("1")+"2;3;1:"+s+";o1;")
	}
}

func TestP12_1ValuesTogether(t *testing.T) {
	const all = 2100000000000000
	share := int64(all / 64)
	even := slices.Repeat([]int64{share}, 64)
	for _, l := range [][]int64{{all - 1, 1}, {1, all - 1}, {all / 2, all / 2}, {all - 2, 1, 1}, even} {
		x := withValues(l...)
		isRight(t, x, written(x))
		if n := Total(x); len(l) < 64 && n != all || len(l) == 64 && n != 64*share {
			t.Errorf("Total of %v: %d", l, n)
		}
		for at := range l {
			x.Outs[at].Value += all - 64*share + 1
			wrongAndUnread(t, x)
			x.Outs[at].Value = l[at]
		}
	}
	for _, l := range [][]int64{
		{all, 1}, {1, all}, {all, all}, {all - 1, 2}, slices.Repeat([]int64{all}, 64), slices.Repeat([]int64{share + 1}, 64),
		{math.MaxInt64, math.MaxInt64}, {math.MaxInt64, math.MaxInt64, 2}, {math.MaxInt64, math.MaxInt64, 2, 5}, slices.Repeat([]int64{1 << 62}, 4), slices.Repeat([]int64{1 << 58}, 64), {1 << 62, 1 << 62, 1 << 62, 1 << 62, 5}, {5, math.MaxInt64, math.MinInt64}, {math.MaxInt64, 1}, {math.MinInt64, math.MinInt64, 5}, {6, -1}, {all + 1, -1},
	} {
		wrongAndUnread(t, withValues(l...))
	}
}

// itself is a lock that stands within itself.
func itself() api.Lock {
	kids := make([]api.Lock, 1)
	kids[0] = api.Lock{Kind: api.LAny, Kids: kids}
	return kids[0]
}

func TestP12_1Locks(t *testing.T) {
	nest := func(n int) api.Lock {
		l := lock.After(1)
		for range n - 1 {
			l = lock.All(l)
		}
		return l
	}
	for _, l := range []api.Lock{lock.Sig("Pn1;"), lock.Pre("Hn1;"), lock.After(0), lock.Older(1073741823), lock.Any(lock.Sig("Pn1;"), lock.All(lock.Pre("Hn2;"), lock.Older(6))), nest(64)} {
		for at := range 3 {
			x := withValues(1, 2, 3)
			x.Outs[at].Lock = l
			isRight(t, x, written(x))
		}
	}
	for _, l := range []api.Lock{
		{}, {Kind: 7}, {Kind: 255}, lock.Sig(""), lock.Sig("n1;"), lock.Sig("Hn1;"), lock.Sig("Pn1"), lock.Pre("Pn1;"), lock.After(-1), lock.After(1 << 30), lock.Older(-1), lock.Older(1 << 30), lock.All(), lock.Any(), lock.All(slices.Repeat([]api.Lock{lock.After(1)}, 9)...), lock.Any(lock.After(1), lock.All()), nest(65),
	} {
		for at := range 3 {
			x := withValues(1, 2, 3)
			x.Outs[at].Lock = l
			wrongAndUnread(t, x)
		}
	}
	for _, l := range []api.Lock{{Kind: api.LAfter, Term: "Pn1;"}, {Kind: api.LSig, Term: "Pn1;", N: 1}, {Kind: api.LOlder, Kids: []api.Lock{lock.After(1)}}, itself()} {
		for at := range 3 {
			x := withValues(1, 2, 3)
			x.Outs[at].Lock = l
			isWrong(t, x)
		}
	}
}

func TestP12_1WitsAreAsManyAsIns(t *testing.T) {
	for _, n := range []int{0, 1, 2, 63, 64} {
		x := bare()
		x.Ins = manyIns(n)
		for _, wits := range []int{0, 1, n - 1, n, n + 1, n + 2, 65} {
			s := api.Signed{Tx: x, Wits: noWits(max(0, wits))}
			if len(s.Wits) == n {
				isWhole(t, s, written(x)+strings.Repeat("w0:0:", n))
			} else {
				isNotWhole(t, s)
			}
		}
	}
	if isNotWhole(t, api.Signed{Tx: plain(), Wits: noWits(1 << 20)}); Whole(api.Signed{}) {
		t.Error("nothing is whole")
	}
	isWhole(t, api.Signed{Tx: bare()}, bareText)
	isWhole(t, api.Signed{Tx: bare(), Wits: []api.Witness{}}, bareText)
	isNotWhole(t, api.Signed{Wits: noWits(1)})
}

// withWit has two witnesses more, one ahead and one behind.
func withWit(w api.Witness) api.Signed {
	x := bare()
	x.Ins = manyIns(3)
	return api.Signed{Tx: x, Wits: []api.Witness{{Pres: []api.Term{"n8;"}}, w, {Sigs: []api.Term{"n9;"}}}}
}

func withWitText(w string) string {
	x := bare()
	x.Ins = manyIns(3)
	return written(x) + "w0:1:n8;" + w + "w1:n9;0:"
}

func TestP12_1Witnesses(t *testing.T) {
	for _, n := range []int{0, 1, 2, 9, 10, 15, 16} {
		l, text := slices.Repeat([]api.Term{"n1;"}, n), strings.Repeat("n1;", n)
		isWhole(t, withWit(api.Witness{Sigs: l}), withWitText(fmt.Sprintf("w%d:%s0:", n, text)))
		isWhole(t, withWit(api.Witness{Pres: l}), withWitText(fmt.Sprintf("w0:%d:%s", n, text)))
		isWhole(t, withWit(api.Witness{Sigs: l, Pres: l}), withWitText(fmt.Sprintf("w%d:%s%d:%s", n, text, n, text)))
	}
	for _, n := range []int{17, 18, 32, 33, 64, 100, 256} {
		l := slices.Repeat([]api.Term{"n1;"}, n)
		isNotWhole(t, withWit(api.Witness{Sigs: l}))
		isNotWhole(t, withWit(api.Witness{Pres: l}))
		isNotWhole(t, withWit(api.Witness{Sigs: l, Pres: l}))
	}
	isWhole(t, withWit(api.Witness{Sigs: []api.Term{}, Pres: []api.Term{}}), withWitText("w0:0:"))
	isNotWhole(t, withWit(api.Witness{Sigs: make([]api.Term, 16)}))
}

// long is a right term of so many bytes, for 12400 and more; deep one that is so deep.
func long(size int) api.Term {
	full := "t4096:" + api.Term(strings.Repeat("x", 4096))
	head := "T4:" + full + full + full
	for n := 4096; n > 0; n-- {
		if last := api.Term(fmt.Sprintf("t%d:%s", n, strings.Repeat("x", n))); len(head)+len(last) == size {
			return head + last
		}
	}
	panic(size)
}

func deep(n int) api.Term { return api.Term(strings.Repeat("H", n-1)) + "n1;" }

func TestP12_1WitnessTerms(t *testing.T) {
	for _, x := range []api.Term{"n0;", "n9223372036854775807;", "t0:", "t1:\x00", "T0:", "Pn1;", "Hn1;", "Sn1;t1:;", "Bn1;n2;", "Xn1;n2;", "Dn1;n2;", "Vn1;n2;", "WPn1;Pn2;", "Kn1;n2;", "LPn1;n2;", long(16384), deep(64)} {
		isWhole(t, withWit(api.Witness{Sigs: []api.Term{x}}), withWitText("w1:"+string(x)+"0:"))
		isWhole(t, withWit(api.Witness{Pres: []api.Term{x}}), withWitText("w0:1:"+string(x)))
		isWhole(t, withWit(api.Witness{Sigs: []api.Term{"n1;", x, x}, Pres: []api.Term{x, "n2;"}}), withWitText("w3:n1;"+string(x+x)+"2:"+string(x)+"n2;"))
	}
	for _, x := range []api.Term{"", "x", "n", "n1", "n01;", "n-1;", "n9223372036854775808;", "t3:ab", "t01:a", "t4097:" + api.Term(strings.Repeat("x", 4097)), "T1:", "T33:" + api.Term(strings.Repeat("n1;", 33)), "PVn1;n2;", "PKn1;n2;", "Xn2;n1;", "Wn1;Pn2;", "Ln1;n2;", "Sn1;", "H", long(16385), deep(65), "w", "\x00", api.Term(strings.Repeat("H", 1<<18))} {
		for _, l := range [][]api.Term{{x}, {"n1;", x}, {x, "n1;"}, append(slices.Repeat([]api.Term{"n1;"}, 15), x)} {
			isNotWhole(t, withWit(api.Witness{Sigs: l}))
			isNotWhole(t, withWit(api.Witness{Pres: l}))
			isNotWhole(t, withWit(api.Witness{Sigs: []api.Term{"n1;"}, Pres: l}))
		}
	}
	for _, x := range []api.Term{"n1;n2;", "n1; ", " n1;", "t1:ab", "Hn1;;"} {
		isNotWhole(t, withWit(api.Witness{Sigs: []api.Term{x}}))
		isNotWhole(t, withWit(api.Witness{Pres: []api.Term{x}}))
	}
}

// samples are right transactions of many kinds, whole with their witnesses.
func samples() []api.Signed {
	many := bare()
	many.Ins, many.Outs = manyIns(11), []api.Out{{Value: 1, Lock: lock.Sig("LPn1;t4:1:w0")}, {Value: 20, Lock: lock.Pre("HT2:n1;t3:;1:")}, {Value: 300, Lock: lock.Any(lock.After(1), lock.All(lock.Older(22), lock.Sig("WPn1;Pn2;")))}}
	wits := slices.Repeat([]api.Witness{{}, {Sigs: []api.Term{"Sn1;t3:w0:", "T0:"}}, {Pres: []api.Term{"t1:w", "n12;", "Xn1;n2;"}}}, 4)[:11]
	return []api.Signed{{Tx: bare()}, {Tx: plain(), Wits: noWits(1)}, {Tx: plain(), Wits: []api.Witness{{Sigs: []api.Term{"Sn1;t1:;"}, Pres: []api.Term{"n2;"}}}}, {Tx: many, Wits: wits}}
}

// TestP12_2JustOne: what is written ends where it ends; no piece of it, and nothing longer, is another one.
func TestP12_2JustOne(t *testing.T) {
	for _, x := range samples() {
		s, e := Write(x.Tx)
		if e != api.OK || s != written(x.Tx) {
			t.Fatalf("Write: %s, %d", s, e)
		}
		for i := range s {
			unread(t, s[:i])
			unread(t, s[i+1:])
			unread(t, s[i+1:]+s[:i+1]+" ")
		}
		for b := range 256 {
			unread(t, s+string([]byte{byte(b)}))
			unread(t, string([]byte{byte(b)})+s)
		}
		for _, more := range []string{s, "o1;", "5;o1;", "1:5;o1;", "w0:0:", "0:", ";", "\n"} {
			unread(t, s+more)
		}
	}
}

func TestP12_2WrongTexts(t *testing.T) {
	in := id("1") + "2;3;"
	for _, s := range []string{
		"", " ", "x", "X", "w", "0", ";", ":", "\x00", "\xff", "0;0;0:1:5;o1;", "X0;0;0:1:5;o1;", "xx0;0;0:1:5;o1;", "x 0;0;0:1:5;o1;", "x0;0;0:1:5;o1; ", "t0;0;0:1:5;o1;",
		"x0;", "x0;0;", "x0;0;0:", "x0;0;0:1:", "x0;0;0:1:5;", "x0;0;0:1:5;o", "x0;0;0:1:5;o1", "x0;0;1:" + in, "x0;0;1:" + in + "1:", "x0;0;1:" + id("1"), "x0;0;1:" + id("1") + "2;", "x0;0;1:" + id("1") + "2;3",
		"x0,0;0:1:5;o1;", "x0;0,0:1:5;o1;", "x0:0;0:1:5;o1;", "x0;0:0:1:5;o1;", "x0;0;0;1:5;o1;", "x0;0;0:1;5;o1;", "x0;0;0:1:5:o1;", "x0;0;0:1:5o1;", "x0;0;0:1:o1;", "x0;0;0:1:5;;", "x0;0;0:5;o1;", "x0;0;1:5;o1;", "x0;0:1:5;o1;", "x0;1:5;o1;", "x;;:1:5;o1;",
		"x0;0;:1:5;o1;", "x0;0;0::5;o1;", "x0;0;00:1:5;o1;", "x0;0;0:01:5;o1;", "x0;0;01:" + in + "1:5;o1;", "x0;0;-1:1:5;o1;", "x0;0;0:-1:5;o1;", "x0;0;+0:1:5;o1;", "x0;0;0:+1:5;o1;", "x0;0; 0:1:5;o1;", "x0;0;0: 1:5;o1;",
		"x0;0;0:0:", "x0;0;0:0:5;o1;", "x0;0;0:2:5;o1;", "x0;0;0:1:5;o1;6;o2;", "x0;0;0:3:5;o1;6;o2;", "x0;0;0:2:5;o1;6;", "x0;0;0:2:5;o1;o2;",
		"x0;0;1:1:5;o1;", "x0;0;2:" + in + "1:5;o1;", "x0;0;0:" + in + "1:5;o1;", "x0;0;1:" + in + id("2") + "2;3;1:5;o1;", "x0;0;2:" + in + in + "1:5;o1;", "x0;0;3:" + in + id("2") + "2;3;1:5;o1;",
		"x0;0;1:" + id("1") + ";3;1:5;o1;", "x0;0;1:" + id("1") + "2;;1:5;o1;", "x0;0;1:" + id("1") + "3;1:5;o1;", "x0;0;1:" + id("1") + ";2;3;1:5;o1;", "x0;0;1:" + id("1") + ":2;3;1:5;o1;", "x0;0;1: " + in + "1:5;o1;", "x0;0;1:" + in + " 1:5;o1;", "x0;0;1:" + in + ";1:5;o1;",
		"x0;0;65:" + strings.Repeat(in, 65) + "1:5;o1;", "x0;0;0:65:" + strings.Repeat("5;o1;", 65), "x0;0;0:64:" + strings.Repeat("5;o1;", 63), "x0;0;0:64:" + strings.Repeat("5;o1;", 65), "x0;0;18446744073709551616:1:5;o1;", "x0;0;0:18446744073709551617:5;o1;", "x0;0;4294967296:1:5;o1;", "x0;0;0:4294967297:5;o1;", "x0;0;" + strings.Repeat("9", 1000) + ":1:5;o1;", "x0;0;0:" + strings.Repeat("9", 1000) + ":5;o1;",
		"x0;0;0:1:5;a07;", "x0;0;0:1:5;&0:", "x0;0;0:1:5;sn1;", "x0;0;0:1:5;pPn1;", "x0;0;0:1:5;o1073741824;", "x0;0;0:1:5;|2:o1;", "x0;0;0:1:5;&1:o1;o2;", "x0;0;0:1:5;?", "x0;0;0:1:5;sPn1", "x0;0;0:1:5;o1;sPn1;", "x0;0;0:2:5;|2:o1;6;o2;", "x0;0;0:1:5;o-1;", "x0;0;0:1:5;&9:" + strings.Repeat("o1;", 9),
	} {
		unread(t, s)
		unreadSigned(t, s)
		checkText(t, s)
	}
}

// TestP12_2Ends: terms and locks end where the next part begins, whatever that looks like.
func TestP12_2Ends(t *testing.T) {
	for _, x := range []api.Term{"n0;", "n12;", "t0:", "t1:;", "t2:5;", "t5:6;o2;", "t9:\x00\xff1:5;o1;", "T0:", "T1:n1;", "T3:t1:;T2:n1;n2;t0:", "Sn1;t3:n2;", "Bt1:sn1;", "Xn10;n9;", "Dn1;t1:o", "Vn1;n2;", "WPn1;Pn2;", "Kn1;Pn2;", "LPn1;n2;", long(16383), deep(63)} {
		if !term.Right("H" + x) {
			t.Fatalf("%s", x)
		}
		locks := []api.Lock{lock.Pre("H" + x), lock.Any(lock.Pre("H" + x)), lock.All(lock.After(3), lock.Pre("H"+x)), lock.Any(lock.Pre("H"+x), lock.Older(4))}
		texts := []string{"pH" + string(x), "|1:pH" + string(x), "&2:a3;pH" + string(x), "|2:pH" + string(x) + "o4;"}
		for i := range locks {
			for j := range locks {
				tx := plain()
				tx.Outs = []api.Out{{Value: 66, Lock: locks[i]}, {Value: 7, Lock: locks[j]}, {Value: 8, Lock: locks[i]}}
				text := "x7;9;1:" + id("1") + "2;3;3:66;" + texts[i] + "7;" + texts[j] + "8;" + texts[i]
				isRightShort(t, tx, text)
				isWhole(t, api.Signed{Tx: tx, Wits: []api.Witness{{Sigs: []api.Term{x, "n5;", x}, Pres: []api.Term{x}}}}, text+"w3:"+string(x)+"n5;"+string(x)+"1:"+string(x))
			}
		}
	}
}

// isRightShort leaves the model out, which is slow over long texts.
func isRightShort(t *testing.T, x api.Tx, text string) {
	t.Helper()
	if s, e := Write(x); s != text || e != api.OK {
		t.Errorf("Write of %s: %s, %d; want %s", short(x), short(s), e, short(text))
	}
	if back, e := Read(text); e != api.OK || !same(back, x) {
		t.Errorf("Read of %s: %s, %d; want %s", short(text), short(back), e, short(x))
	}
}

// TestP12_2Great: 64 Outs with locks of 64 parts, with the longest of terms.
func TestP12_2Great(t *testing.T) {
	x := plain()
	x.Ins = manyIns(64)
	kids := append(slices.Repeat([]api.Lock{lock.Sig("P" + long(16383))}, 7), lock.After(1))
	x.Outs = slices.Repeat([]api.Out{{Value: 9, Lock: lock.All(kids...)}}, 64)
	text := strings.TrimSuffix(written(api.Tx{Ins: x.Ins, After: 7, Tag: 9}), "0:") + "64:" + strings.Repeat("9;&8:"+strings.Repeat("sP"+string(long(16383)), 7)+"a1;", 64)
	isRightShort(t, x, text)
	unread(t, text[:len(text)-1])
	unread(t, text+"o1;")
}

// TestP12_2AllSmallTexts: the right transactions of a few of these pieces, made by the forms alone, beside all rows of so many pieces.
func TestP12_2AllSmallTexts(t *testing.T) {
	one := id("1")
	right := map[string]bool{}
	nums := []string{"0;", "1;"}
	var ins, outs []string
	for _, n := range nums {
		for _, age := range nums {
			ins = append(ins, "1:"+one+n+age)
		}
	}
	ins = append(ins, "0:")
	for _, in := range ins {
		outs = append(outs, in+"1:1;o1;", in+"2:1;o1;1;o1;")
	}
	for _, after := range nums {
		for _, tag := range nums {
			for _, o := range outs {
				right["x"+after+tag+o] = true
			}
		}
	}
	pieces := []string{"0;", "1;", "0:", "1:", "2:", one, "o1;"}
	met := 0
	var row func(s string, left int)
	row = func(s string, left int) {
		x, e := Read(s)
		if (e == api.OK) != right[s] || e == api.OK && written(x) != s || e != api.OK && (e != api.ErrTx || !same(x, api.Tx{})) {
			t.Fatalf("Read of %s: %s, %d", s, short(x), e)
		}
		if e == api.OK {
			met++
		}
		for _, p := range pieces[:min(len(pieces), left*len(pieces))] {
			row(s+p, left-1)
		}
	}
	row("x", 6)     // four of them: no Ins, one Out
	row("x1;0;", 7) // six: no Ins, one Out or two; one In in four ways, one Out
	if met != 10 {
		t.Errorf("%d of 10 were met", met)
	}
}

func TestP12_3JustOne(t *testing.T) {
	for _, x := range samples() {
		s := writtenSigned(x)
		isWhole(t, x, s)
		for i := range s {
			unreadSigned(t, s[:i])
			unreadSigned(t, s[i+1:])
		}
		for b := range 256 {
			unreadSigned(t, s+string([]byte{byte(b)}))
			unreadSigned(t, string([]byte{byte(b)})+s)
		}
		for _, more := range []string{s, "w0:0:", "0:", "w", "n1;", "w1:n1;0:"} {
			unreadSigned(t, s+more)
		}
		if len(x.Wits) > 0 {
			unread(t, s)
			unreadSigned(t, written(x.Tx))
		}
	}
}

func TestP12_3WrongTexts(t *testing.T) {
	for _, s := range []string{
		"", "w", "W0:0:", "0:0:", "w0:", "w0;0:", "w0:0;", "w:0:", "w0::", "w00:0:", "w0:00:", "w01:n1;0:", "w0:01:n1;", "w-1:0:", "w0:-1:", "w+0:0:", "w 0:0:", "w0: 0:", "w0:0: ", " w0:0:", "w0:0:w", "ww0:0:", "w0:0:w0:0:", "w0:w0:", "x0:0:",
		"w1:0:", "w1:n1;", "w1:n1;1:", "w0:1:", "w2:n1;0:", "w1:n1;n2;0:", "w0:2:n1;", "w0:1:n1;n2;", "w1:n1;0:n2;", "w0:0:n1;", "w0:n1;", "wn1;0:", "w1n1;0:", "w1:n1;:", "w1: n1;0:", "w1:n1; 0:", "w1:n1;;0:",
		"w1:n1:0:", "w1:n01;0:", "w1:t2:a0:", "w0:1:t2:a", "w0:1:t1:ab", "w1:Sn1;0:", "w1:PVn1;n2;0:", "w0:1:Xn2;n1;", "w1:x0:", "w1:\x000:", "w0:1:" + string(long(16385)), "w0:1:" + string(deep(65)), "w1:" + string(deep(65)) + "0:",
		"w17:" + strings.Repeat("n1;", 17) + "0:", "w0:17:" + strings.Repeat("n1;", 17), "w16:" + strings.Repeat("n1;", 17) + "0:", "w0:16:" + strings.Repeat("n1;", 15), "w18446744073709551617:n1;0:", "w18446744073709551616:0:", "w4294967296:0:", "w0:4294967297:n1;", "w0:" + strings.Repeat("9", 99) + ":n1;",
	} {
		unreadSigned(t, plainText()+s)
		unread(t, plainText()+s+"w")
		checkText(t, plainText()+s)
		unreadSigned(t, withWitText(s))
		unreadSigned(t, bareText+s+"w")
	}
	unreadSigned(t, bareText+"w0:0:")
	unreadSigned(t, plainText())
}

// TestP12_3AllSmallTexts: like P12_2's, behind a transaction with one In.
func TestP12_3AllSmallTexts(t *testing.T) {
	lists := []string{"0:", "1:n1;", "1:t0:", "2:n1;n1;", "2:n1;t0:", "2:t0:n1;", "2:t0:t0:"}
	right := map[string]bool{}
	for _, sigs := range lists {
		for _, pres := range lists {
			right[plainText()+"w"+sigs+pres] = true
		}
	}
	met := 0
	var row func(s string, left int)
	row = func(s string, left int) {
		x, e := ReadSigned(s)
		if (e == api.OK) != right[s] || e == api.OK && writtenSigned(x) != s || e != api.OK && (e != api.ErrTx || !sameSigned(x, api.Signed{})) {
			t.Fatalf("ReadSigned of %s: %s, %d", s, short(x), e)
		}
		if e == api.OK {
			met++
		}
		for _, p := range []string{"w", "0:", "1:", "2:", "n1;", "t0:"}[:6*min(left, 1)] {
			row(s+p, left-1)
		}
	}
	row(plainText(), 7)
	if met != len(right) {
		t.Errorf("%d of %d were met", met, len(right))
	}
}

func TestP12_4IDs(t *testing.T) {
	for _, x := range []struct {
		tx api.Tx
		id string
	}{
		{bare(), "107e395c8c75d7325b1362e6831f617ef8a4d3094e640104ae7d2376ec0c7175"},
		{plain(), "7a9b266ec59f2a58800cdbfbd93bc324a93c237b04e8f4c706be828780fd1e7e"},
	} {
		if s, e := ID(x.tx); s != x.id || e != api.OK {
			t.Errorf("ID of %s: %s, %d; want %s", short(x.tx), s, e, x.id)
		}
		if m, e := Msg(x.tx); m != api.Term("t64:"+x.id) || e != api.OK {
			t.Errorf("Msg of %s: %s, %d", short(x.tx), m, e)
		}
	}
	for _, x := range samples() {
		check(t, x.Tx)
	}
	for _, x := range []api.Tx{{}, {Ins: plain().Ins}, withValues(0)} {
		isWrong(t, x)
	}
}

func TestP12_5Sign(t *testing.T) {
	msg, _ := Msg(plain())
	for _, k := range []api.Term{"n1;", "n0;", "t0:", "t2:ab", "Vn1;n2;", "Kn1;t1:x", "Dn1;t1:x", "Xn10;n9;", "Pn1;", "Hn1;", "T0:", deep(63), long(16384 - 1 - 68)} {
		if s, e := Sign(plain(), k); s != "S"+k+msg || e != api.OK {
			t.Errorf("Sign by %s: %s, %d", short(k), short(s), e)
		}
	}
	for _, x := range []struct {
		k api.Term
		e api.Errno
	}{
		{"", api.ErrTerm}, {"x", api.ErrTerm}, {"n1", api.ErrTerm}, {"n01;", api.ErrTerm}, {"n1;n2;", api.ErrTerm}, {"PVn1;n2;", api.ErrTerm}, {"Xn9;n10;", api.ErrTerm}, {"\x00", api.ErrTerm}, {deep(65), api.ErrTerm}, {long(16385), api.ErrTerm}, {api.Term(strings.Repeat("H", 1<<20)), api.ErrTerm},
		{deep(64), api.ErrLimit}, {long(16384 - 1 - 67), api.ErrLimit}, {long(16384), api.ErrLimit},
	} {
		if s, e := Sign(plain(), x.k); s != "" || e != x.e {
			t.Errorf("Sign by %s: %s, %d; want %d", short(x.k), short(s), e, x.e)
		}
		if s, e := Sign(withValues(0), x.k); s != "" || e != api.ErrTx {
			t.Errorf("Sign of a wrong one by %s: %s, %d", short(x.k), short(s), e)
		}
	}
}

func opensAs(t *testing.T, want bool, x api.Signed, i int, l api.Lock) {
	t.Helper()
	if Opens(x, i, l) != want {
		t.Errorf("Opens(%s, %d, %s): not %t", short(x), i, short(l), want)
	}
}

// signedBy is a transaction of three Ins with Ages of 10, 11 and 12, and After 20, the second of which n1; has signed, with the preimage n2; beside it.
func signedBy() api.Signed {
	x := bare()
	x.Ins, x.After = manyIns(3), 20
	for i := range x.Ins {
		x.Ins[i].Age = 10 + i
	}
	sig, _ := Sign(x, "n1;")
	return api.Signed{Tx: x, Wits: []api.Witness{{}, {Sigs: []api.Term{"n9;", sig}, Pres: []api.Term{"n2;"}}, {Sigs: []api.Term{sig}}}}
}

func TestP12_5Opens(t *testing.T) {
	x := signedBy()
	key, pre := lock.Sig("Pn1;"), lock.Pre("Hn2;")
	for i, want := range map[int][2]bool{0: {false, false}, 1: {true, true}, 2: {true, false}, 3: {}, 4: {}, -1: {}, -2: {}, 63: {}, 64: {}, math.MaxInt: {}, math.MinInt: {}, 1 << 32: {}, 1<<32 + 1: {}} {
		opensAs(t, want[0], x, i, key)
		opensAs(t, want[1], x, i, pre)
		opensAs(t, want[0] && want[1], x, i, lock.All(key, pre))
		opensAs(t, 0 <= i && i <= 2, x, i, lock.After(0))
	}
	for _, l := range []api.Lock{lock.Sig("Pn2;"), lock.Sig("Pn9;"), lock.Sig("WPn1;Pn2;"), lock.Pre("Hn1;"), lock.Pre("Hn9;"), lock.All(key, lock.Sig("Pn2;")), lock.Any(lock.Sig("Pn2;"), lock.Pre("Hn3;"))} {
		opensAs(t, false, x, 1, l)
	}
	opensAs(t, true, x, 1, lock.Any(lock.Sig("Pn2;"), key))
	for _, l := range []api.Lock{{}, {Kind: 9}, lock.Sig("n1;"), lock.All(), lock.After(-1), lock.Any(lock.After(0), lock.All()), {Kind: api.LAfter, Term: "n1;"}, itself()} {
		opensAs(t, false, x, 1, l)
	}
}

func TestP12_5OpensTimes(t *testing.T) {
	x := signedBy()
	for i := range 3 {
		for _, n := range []int{0, 1, 9, 10, 11, 12, 13, 19, 20, 21, 1073741823} {
			opensAs(t, n <= 20, x, i, lock.After(n))
			opensAs(t, n <= 10+i, x, i, lock.Older(n))
		}
	}
	x.Tx.After, x.Tx.Ins[0].Age = 1073741823, 1073741823
	opensAs(t, true, x, 0, lock.All(lock.After(1073741823), lock.Older(1073741823)))
	x.Tx.After, x.Tx.Ins[0].Age = 0, 0
	opensAs(t, true, x, 0, lock.All(lock.After(0), lock.Older(0)))
	opensAs(t, false, x, 0, lock.After(1))
	opensAs(t, false, x, 0, lock.Older(1))
}

// TestP12_5OtherMessages: a signature opens for the transaction that was signed alone.
func TestP12_5OtherMessages(t *testing.T) {
	key := lock.Sig("Pn1;")
	for name, change := range map[string]func(*api.Tx){
		"after": func(x *api.Tx) { x.After++ }, "tag": func(x *api.Tx) { x.Tag++ }, "age": func(x *api.Tx) { x.Ins[2].Age++ }, "n": func(x *api.Tx) { x.Ins[0].Point.N++ }, "point": func(x *api.Tx) { x.Ins[0].Point.Tx = id("e") },
		"order": func(x *api.Tx) { x.Ins[0], x.Ins[2] = x.Ins[2], x.Ins[0] }, "value": func(x *api.Tx) { x.Outs[0].Value++ }, "lock": func(x *api.Tx) { x.Outs[0].Lock = lock.Older(2) }, "an out more": func(x *api.Tx) { x.Outs = append(x.Outs, x.Outs[0]) },
	} {
		x := signedBy()
		opensAs(t, true, x, 1, key)
		change(&x.Tx)
		if !Whole(x) || Opens(x, 1, key) || !Opens(x, 1, lock.Pre("Hn2;")) {
			t.Errorf("%s: another transaction's signature opens, or nothing does", name)
		}
	}
	x := signedBy()
	id, _ := ID(x.Tx)
	text := api.Term(written(x.Tx))
	for _, m := range []api.Term{"t0:", "n1;", "Ht64:" + api.Term(id), api.Term(fmt.Sprintf("t%d:%s", len(text), text)), "t63:" + api.Term(id[1:]), "t65:" + api.Term(id) + "0", "T1:t64:" + api.Term(id), api.Term("t64:" + strings.ToUpper(id))} {
		x.Wits[1].Sigs = []api.Term{"Sn1;" + m}
		if !Whole(x) {
			t.Fatalf("%s", m)
		}
		opensAs(t, false, x, 1, key)
	}
}

// TestP12_5OpensOnlyWhole: whatever is not whole opens nothing, at no place.
func TestP12_5OpensOnlyWhole(t *testing.T) {
	for name, change := range map[string]func(*api.Signed){
		"a wit less": func(x *api.Signed) { x.Wits = x.Wits[:2] }, "a wit more": func(x *api.Signed) { x.Wits = append(x.Wits, api.Witness{}) }, "none": func(x *api.Signed) { x.Wits = nil },
		"another's sig": func(x *api.Signed) { x.Wits[0].Sigs = []api.Term{"x"} }, "another's pre": func(x *api.Signed) { x.Wits[2].Pres = []api.Term{""} }, "its own sig": func(x *api.Signed) { x.Wits[1].Sigs = append(x.Wits[1].Sigs, "") },
		"another's sigs": func(x *api.Signed) { x.Wits[2].Sigs = slices.Repeat([]api.Term{"n1;"}, 17) }, "another's pres": func(x *api.Signed) { x.Wits[0].Pres = slices.Repeat([]api.Term{"n1;"}, 17) },
		"no outs": func(x *api.Signed) { x.Tx.Outs = nil }, "a point twice": func(x *api.Signed) { x.Tx.Ins[2] = x.Tx.Ins[0] }, "a tag": func(x *api.Signed) { x.Tx.Tag = -1 }, "a time": func(x *api.Signed) { x.Tx.After = 1 << 30 }, "an age": func(x *api.Signed) { x.Tx.Ins[1].Age = 1 << 30 },
	} {
		x := signedBy()
		change(&x)
		for i := -1; i < 5; i++ {
			for _, l := range []api.Lock{lock.After(0), lock.Older(0), lock.Sig("Pn1;"), lock.Pre("Hn2;"), lock.Any(lock.After(0), lock.Sig("Pn1;"))} {
				if Opens(x, i, l) {
					t.Errorf("%s: Opens at %d %s", name, i, writtenLock(l))
				}
			}
		}
	}
	opensAs(t, false, api.Signed{Tx: bare()}, 0, lock.After(0))
	opensAs(t, false, api.Signed{}, 0, lock.After(0))
}

func TestP12_6Weight(t *testing.T) {
	for ins := -2; ins <= 66; ins++ {
		for outs := -2; outs <= 66; outs++ {
			want := int64(100)
			for range ins {
				want += 200
			}
			for range outs {
				want += 100
			}
			if ins < 0 || outs < 0 || ins > 64 || outs > 64 {
				want = 0
			}
			if n := Weight(ins, outs); n != want {
				t.Errorf("Weight(%d, %d): %d; want %d", ins, outs, n, want)
			}
		}
	}
	for _, x := range []struct {
		ins, outs int
		want      int64
	}{{0, 0, 100}, {1, 0, 300}, {0, 1, 200}, {64, 0, 12900}, {0, 64, 6500}, {64, 64, 19300}, {65, 64, 0}, {64, 65, 0}, {-1, 0, 0}, {0, -1, 0}, {math.MaxInt, 1, 0}, {1, math.MaxInt, 0}, {math.MinInt, 1, 0}, {1, math.MinInt, 0}, {1 << 32, 1, 0}, {1, 1 << 32, 0}, {-1, 3, 0}} {
		if n := Weight(x.ins, x.outs); n != x.want {
			t.Errorf("Weight(%d, %d): %d; want %d", x.ins, x.outs, n, x.want)
		}
	}
}

func TestP12_6Total(t *testing.T) {
	for _, x := range []struct {
		l    []int64
		want int64
	}{{[]int64{5}, 5}, {[]int64{5, 6}, 11}, {[]int64{1, 1, 1}, 3}, {[]int64{api.MaxCoin}, api.MaxCoin}, {[]int64{api.MaxCoin - 1, 1}, api.MaxCoin}, {[]int64{api.MaxCoin, 1}, 0}, {nil, 0}, {[]int64{0}, 0}, {[]int64{5, 0}, 0}, {[]int64{5, -1}, 0}} {
		if n := Total(withValues(x.l...)); n != x.want {
			t.Errorf("Total of %v: %d; want %d", x.l, n, x.want)
		}
	}
	x := withValues(5, 6)
	x.Tag = -1
	if n := Total(x); n != 0 {
		t.Errorf("Total of a wrong one: %d", n)
	}
}

func TestHugeTextsEnd(t *testing.T) {
	lead := []string{"", "x", "x0;", "x0;0;", "x0;0;64:", "x0;0;0:64:", "x0;0;0:64:5;", "x0;0;0:1:5;", "x0;0;0:1:5;sP", plainText(), plainText() + "w16:", plainText() + "w1:"}
	for _, s := range []string{"x", "w", "0", "9", ";", ":", "&8:", "|1:", "&", "a1;", "5;o1;", "5;", "sP", "pH", "sPn1;", "T32:", "t4096:", "n", "n1;", "S", "H", "\x00", "é", "sPT32:", "64:", id("1") + "2;3;"} {
		for _, l := range lead {
			text := l + strings.Repeat(s, 1<<17)
			unread(t, text)
			unreadSigned(t, text)
		}
	}
}

// TestNoPanic hands all that a hand can make to all calls.
func TestNoPanic(t *testing.T) {
	ins := [][]api.In{nil, {}, {{}}, {{Point: api.Point{Tx: strings.Repeat("1", 1<<20), N: math.MinInt}, Age: math.MaxInt}}, make([]api.In, 1<<17), manyIns(64), plain().Ins}
	outs := [][]api.Out{nil, {}, {{}}, {{Value: math.MinInt64, Lock: itself()}}, {{Value: 1, Lock: itself()}}, make([]api.Out, 1<<17), manyOuts(64), slices.Repeat([]api.Out{{Value: math.MaxInt64, Lock: lock.After(0)}}, 64), bare().Outs}
	wits := [][]api.Witness{nil, {}, {{}}, {{Sigs: make([]api.Term, 1<<17)}}, {{Pres: []api.Term{"\xff"}}}, noWits(64), noWits(1 << 17)}
	for _, in := range ins {
		for _, out := range outs {
			x := api.Tx{Ins: in, Outs: out}
			for _, n := range []int{0, math.MinInt, math.MaxInt} {
				x.After, x.Tag = n, int64(n)
				Right(x)
				Write(x)
				ID(x)
				Msg(x)
				Sign(x, "n1;")
				Sign(x, "\x00")
				Total(x)
				for _, w := range wits {
					s := api.Signed{Tx: x, Wits: w}
					Whole(s)
					WriteSigned(s)
					Opens(s, 0, lock.After(0))
					Opens(s, n, itself())
					Opens(s, 63, api.Lock{})
				}
			}
		}
	}
}
