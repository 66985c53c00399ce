package money

import (
	"fmt"
	"math"
	"math/big"
	"math/rand"
	"slices"
	"testing"

	"sluiceway/api"
)

// edges are numbers about each bound that the chapter names, about those at which something is rounded, and about those of the machine.
func edges() []int64 {
	about := []int64{
		0, 999, 1000, 1001, 1999, 999999, 1000000, 1000001, 1 << 31, 1 << 32, 1449137674618, 4294967296000,
		api.MaxCoin / 2, api.MaxCoin, api.MaxMoney / 2, api.MaxMoney / 3, api.MaxMoney, 1 << 61, 1 << 62, math.MaxInt64 / 2,
	}
	l := []int64{math.MinInt64, math.MinInt64 + 1, math.MaxInt64 - 1, math.MaxInt64}
	for _, n := range about {
		l = append(l, n-1, n, n+1, -n)
	}
	slices.Sort(l)
	return slices.Compact(l)
}

// drawn is a number of any size, not a few of them outside all amounts.
func drawn(draw *rand.Rand) int64 {
	n := int64(draw.Uint64() >> (1 + draw.Intn(63)))
	switch draw.Intn(12) {
	case 0:
		return -n
	case 1:
		return edges()[draw.Intn(len(edges()))]
	}
	return n
}

// amount is a drawn number from 0 to most.
func amount(draw *rand.Rand, most int64) int64 {
	n := int64(draw.Uint64() >> (1 + draw.Intn(63)))
	return n % (most + 1)
}

// whole is a number without bounds.
func whole(n int64) *big.Int { return big.NewInt(n) }

// from tells whether n is a number from 0 to most.
func from(n *big.Int, most int64) bool { return n.Sign() >= 0 && n.Cmp(whole(most)) <= 0 }

// answer is n, and no error, where it is a number from 0 to most and all that was handed in too.
func answer(n *big.Int, most int64, handed ...int64) (int64, api.Errno) {
	for _, h := range handed {
		if !from(whole(h), most) {
			return 0, api.ErrMoney
		}
	}
	if !from(n, most) {
		return 0, api.ErrMoney
	}
	return n.Int64(), api.OK
}

func plus(l ...int64) *big.Int {
	sum := whole(0)
	for _, n := range l {
		sum.Add(sum, whole(n))
	}
	return sum
}

// part is a * b / unit, rounded down.
func part(a, b, unit int64) *big.Int {
	p := new(big.Int).Mul(whole(a), whole(b))
	return p.Div(p, whole(unit))
}

// feeOf and grossOf are without bounds.
func feeOf(amount, base, rate int64) *big.Int {
	return new(big.Int).Add(whole(base), part(amount, rate, 1000000))
}

func grossOf(amount, base, rate int64) *big.Int {
	return new(big.Int).Add(whole(amount), feeOf(amount, base, rate))
}

func is(t *testing.T, call string, n int64, e api.Errno, want int64, err api.Errno) {
	t.Helper()
	if n != want || e != err {
		t.Errorf("%s: %d, error %d, want %d, error %d", call, n, e, want, err)
	}
}

// row is a call written out, and what it answers; the answers are numbers of the test's own, told by no other program.
type row struct {
	args []int64
	want int64
	err  api.Errno
}

func wrong(args ...int64) row { return row{args, 0, api.ErrMoney} }

func right(want int64, args ...int64) row { return row{args, want, api.OK} }

func two(f func(a, b int64) (int64, api.Errno)) func(l ...int64) (int64, api.Errno) {
	return func(l ...int64) (int64, api.Errno) { return f(l[0], l[1]) }
}

func three(f func(a, b, c int64) (int64, api.Errno)) func(l ...int64) (int64, api.Errno) {
	return func(l ...int64) (int64, api.Errno) { return f(l[0], l[1], l[2]) }
}

func rows(t *testing.T, name string, f func(l ...int64) (int64, api.Errno), l []row) {
	t.Helper()
	for _, r := range l {
		n, e := f(r.args...)
		is(t, fmt.Sprint(name, r.args), n, e, r.want, r.err)
	}
}

func TestLimits(t *testing.T) {
	if api.MaxCoin != 2100000000000000 || api.MaxMoney != 2100000000000000000 || api.ErrMoney != 40 {
		t.Error("the limits are others than the chapter's")
	}
}

func TestP4_1Right(t *testing.T) {
	for _, a := range []int64{0, 1, 999, 1000, api.MaxCoin, api.MaxCoin + 1, 1 << 60, 2099999999999999999, 2100000000000000000} {
		if !Right(a) {
			t.Errorf("Right(%d): no", a)
		}
	}
	for _, a := range []int64{-1, -2, -1000, -2100000000000000000, 2100000000000000001, 1 << 61, 1 << 62, math.MinInt64, math.MinInt64 + 1, math.MaxInt64 - 1, math.MaxInt64} {
		if Right(a) {
			t.Errorf("Right(%d): yes", a)
		}
	}
}

func TestP4_2AddRows(t *testing.T) {
	rows(t, "Add", two(Add), []row{
		right(3, 1, 2), right(0, 0, 0), right(1, 0, 1), right(1, 1, 0),
		right(api.MaxMoney, api.MaxMoney, 0), right(api.MaxMoney, 0, api.MaxMoney),
		right(api.MaxMoney, api.MaxMoney-1, 1), right(api.MaxMoney, 1, api.MaxMoney-1),
		right(api.MaxMoney, api.MaxMoney/2, api.MaxMoney/2),
		right(api.MaxMoney-1, api.MaxMoney-2, 1),
		wrong(api.MaxMoney, 1), wrong(1, api.MaxMoney), wrong(api.MaxMoney, api.MaxMoney),
		wrong(api.MaxMoney/2, api.MaxMoney/2+1),
		wrong(-1, 2), wrong(2, -1), wrong(-1, 0), wrong(0, -1), wrong(-1, -1),
		wrong(api.MaxMoney+1, -1), wrong(-1, api.MaxMoney+1), wrong(api.MaxMoney+1, 0), wrong(0, api.MaxMoney+1),
		wrong(math.MaxInt64, math.MaxInt64), wrong(math.MinInt64, math.MinInt64), wrong(math.MaxInt64, math.MinInt64),
		wrong(math.MaxInt64, 1), wrong(1, math.MaxInt64), wrong(math.MinInt64, 0), wrong(0, math.MinInt64),
		wrong(math.MaxInt64, 0), wrong(1<<62, 1<<62),
	})
}

func TestP4_2SubRows(t *testing.T) {
	rows(t, "Sub", two(Sub), []row{
		right(1, 3, 2), right(0, 0, 0), right(1, 1, 0), right(0, 1, 1),
		right(api.MaxMoney, api.MaxMoney, 0), right(0, api.MaxMoney, api.MaxMoney), right(1, api.MaxMoney, api.MaxMoney-1),
		right(api.MaxMoney-1, api.MaxMoney, 1),
		wrong(1, 2), wrong(0, 1), wrong(0, api.MaxMoney), wrong(api.MaxMoney-1, api.MaxMoney),
		wrong(0, -1), wrong(1, -1), wrong(-1, -1), wrong(-1, -2), wrong(-1, 0), wrong(-1, 1),
		wrong(api.MaxMoney+1, 1), wrong(api.MaxMoney+1, api.MaxMoney+1), wrong(api.MaxMoney+2, api.MaxMoney+1),
		wrong(api.MaxMoney+1, 0), wrong(api.MaxMoney, api.MaxMoney+1), wrong(api.MaxMoney, -1),
		wrong(math.MaxInt64, 1), wrong(math.MaxInt64, math.MaxInt64), wrong(math.MinInt64, math.MinInt64),
		wrong(math.MinInt64, 1), wrong(1, math.MinInt64), wrong(0, math.MinInt64), wrong(math.MinInt64, math.MaxInt64),
		wrong(math.MaxInt64, math.MinInt64), wrong(math.MinInt64, 0),
	})
}

func TestP4_2SumRows(t *testing.T) {
	rows(t, "Sum", Sum, []row{
		right(0), right(0, 0), right(5, 5), right(api.MaxMoney, api.MaxMoney), right(6, 1, 2, 3), right(0, 0, 0, 0, 0),
		right(api.MaxMoney, api.MaxMoney-6, 1, 2, 3), right(api.MaxMoney, 0, api.MaxMoney, 0),
		right(api.MaxMoney, api.MaxMoney/3, api.MaxMoney/3, api.MaxMoney/3),
		wrong(-1), wrong(api.MaxMoney + 1), wrong(math.MaxInt64), wrong(math.MinInt64),
		wrong(api.MaxMoney-6, 1, 2, 4), wrong(api.MaxMoney/3, api.MaxMoney/3, api.MaxMoney/3+1),
		wrong(1, 2, -1), wrong(-1, 2, 3), wrong(5, -1, 3), wrong(api.MaxMoney, 1, -1), wrong(api.MaxMoney+1, -1), wrong(-1, 1),
		wrong(1<<62, 1<<62, 1<<62, 1<<62), wrong(math.MinInt64, math.MinInt64), wrong(math.MaxInt64, math.MaxInt64, 2),
		wrong(0, 0, math.MinInt64), wrong(0, 0, math.MaxInt64),
	})
	if n, e := Sum(nil...); n != 0 || e != api.OK {
		t.Errorf("Sum of nil: %d, error %d", n, e)
	}
	if n, e := Sum([]int64{}...); n != 0 || e != api.OK {
		t.Errorf("Sum of an empty list: %d, error %d", n, e)
	}
}

func TestP4_2SumOfMany(t *testing.T) {
	ones := slices.Repeat([]int64{1}, 1000)
	n, e := Sum(ones...)
	is(t, "Sum of a thousand ones", n, e, 1000, api.OK)
	coins := slices.Repeat([]int64{api.MaxCoin}, 1000)
	n, e = Sum(coins...)
	is(t, "Sum of all there is", n, e, api.MaxMoney, api.OK)
	n, e = Sum(append(coins, 1)...)
	is(t, "Sum of one more", n, e, 0, api.ErrMoney)
	n, e = Sum(append(coins, 0)...)
	is(t, "Sum of nothing more", n, e, api.MaxMoney, api.OK)
	for _, many := range []int{2, 5, 9, 18, 1000} { // nine of them wrap round an int64 to an amount
		n, e = Sum(slices.Repeat([]int64{api.MaxMoney}, many)...)
		is(t, fmt.Sprint("Sum of all there is, times ", many), n, e, 0, api.ErrMoney)
	}
	for place := range 50 {
		for _, bad := range []int64{-1, api.MaxMoney + 1, math.MinInt64, math.MaxInt64} {
			l := slices.Repeat([]int64{7}, 50)
			l[place] = bad
			n, e := Sum(l...)
			is(t, fmt.Sprint("Sum with ", bad, " at place ", place), n, e, 0, api.ErrMoney)
		}
	}
}

func TestP4_2SumLeavesTheListAlone(t *testing.T) {
	for _, first := range []int64{1, -1, api.MaxMoney} {
		l := []int64{first, 2, 3, 4, 5, 6}
		before := slices.Clone(l)
		for n := range len(l) + 1 {
			Sum(l[:n]...)
			if !slices.Equal(l, before) {
				t.Fatalf("Sum of the first %d changed %v to %v", n, before, l)
			}
		}
	}
}

func TestP4_2Pairs(t *testing.T) {
	for _, a := range edges() {
		for _, b := range edges() {
			want, err := answer(plus(a, b), api.MaxMoney, a, b)
			n, e := Add(a, b)
			is(t, fmt.Sprint("Add ", a, " ", b), n, e, want, err)
			n, e = Sum(a, b)
			is(t, fmt.Sprint("Sum ", a, " ", b), n, e, want, err)
			want, err = answer(new(big.Int).Sub(whole(a), whole(b)), api.MaxMoney, a, b)
			n, e = Sub(a, b)
			is(t, fmt.Sprint("Sub ", a, " ", b), n, e, want, err)
		}
	}
}

func TestP4_2DrawnLists(t *testing.T) {
	draw := rand.New(rand.NewSource(4))
	for range 20000 {
		l := make([]int64, draw.Intn(12))
		for i := range l {
			l[i] = amount(draw, api.MaxMoney/int64(1+draw.Intn(12)))
			if draw.Intn(40) == 0 {
				l[i] = drawn(draw)
			}
		}
		want, err := answer(plus(l...), api.MaxMoney, l...)
		n, e := Sum(l...)
		is(t, fmt.Sprint("Sum ", l), n, e, want, err)
	}
}

func TestP4_3FeeRows(t *testing.T) {
	rows(t, "Fee", three(Fee), []row{
		right(1100, 1000000, 1000, 100), right(0, 999, 0, 1000), right(1, 1000, 0, 1000), right(1, 1999, 0, 1000), right(2, 2000, 0, 1000),
		right(0, 0, 0, 0), right(7, 0, 7, 0), right(7, api.MaxMoney, 7, 0), right(7, 0, 7, api.MaxMoney), right(0, api.MaxMoney, 0, 0),
		right(0, 1, 0, 999999), right(1, 1, 0, 1000000), right(1, 1, 0, 1000001), right(1, 1, 0, 1999999), right(2, 1, 0, 2000000),
		right(0, 999999, 0, 1), right(1, 1000000, 0, 1), right(8, 999999, 8, 1), right(9, 1000000, 8, 1),
		right(2100000000000, 1, 0, api.MaxMoney), right(2100000000000, api.MaxMoney, 0, 1),
		right(api.MaxMoney, api.MaxMoney, 0, 1000000), right(api.MaxMoney, 1000000, 0, api.MaxMoney),
		right(api.MaxMoney, 0, api.MaxMoney, 0), right(api.MaxMoney, 999, api.MaxMoney, 1000), right(api.MaxMoney, 1000, api.MaxMoney-1, 1000),
		right(2099997900000000000, api.MaxMoney, 0, 999999), right(api.MaxMoney, api.MaxMoney, 2100000000000, 999999),
		wrong(api.MaxMoney, 2100000000001, 999999), wrong(api.MaxMoney, 1, 1000000), wrong(1000, api.MaxMoney, 1000),
		wrong(api.MaxMoney, 0, 1000001), wrong(1000001, 0, api.MaxMoney), wrong(api.MaxMoney, 0, api.MaxMoney),
		wrong(api.MaxMoney, api.MaxMoney, api.MaxMoney), wrong(api.MaxMoney, api.MaxMoney, 1000000),
		wrong(-1, 0, 0), wrong(0, -1, 0), wrong(0, 0, -1), wrong(-1, -1, -1), wrong(-1, 0, -1), wrong(1000000, -1, 1000), wrong(-1000, 5, 1000),
		wrong(api.MaxMoney+1, 0, 0), wrong(0, api.MaxMoney+1, 0), wrong(0, 0, api.MaxMoney+1), wrong(1, 1, api.MaxMoney+1),
		wrong(math.MaxInt64, 0, 0), wrong(0, math.MaxInt64, 0), wrong(0, 0, math.MaxInt64),
		wrong(math.MinInt64, 0, 0), wrong(0, math.MinInt64, 0), wrong(0, 0, math.MinInt64),
		wrong(math.MaxInt64, math.MaxInt64, math.MaxInt64), wrong(math.MinInt64, math.MinInt64, math.MinInt64),
	})
}

// The products here run over 64 bits, so that their low words by themselves would make other shares.
func TestP4_3LongProducts(t *testing.T) {
	rows(t, "Fee", three(Fee), []row{
		right(18446744073709551, 1<<32*1000, 0, 1<<32),
		right(18446744073709551, 1<<32, 0, 1<<32*1000),
		right(18446744073710551, 1<<32*1000, 1000, 1<<32),
		right(1000000000000000000, 1000000000000, 0, 1000000000000),
		right(1999999999998000000, 1999999999998, 0, 1000000000000),
		right(999999999999999, 999999999999999999, 0, 1000),
		wrong(1<<40, 0, 1<<60), wrong(1<<32, 0, 1<<60), wrong(1<<60, 0, 1<<32),
	})
}

func TestP4_3GrossRows(t *testing.T) {
	rows(t, "Gross", three(Gross), []row{
		right(1001100, 1000000, 1000, 100), right(0, 0, 0, 0), right(999, 999, 0, 1000), right(1001, 1000, 0, 1000), right(7, 0, 7, 5),
		right(api.MaxMoney, api.MaxMoney, 0, 0), right(api.MaxMoney, api.MaxMoney-1, 1, 0), right(api.MaxMoney, 0, api.MaxMoney, 0),
		right(api.MaxMoney, api.MaxMoney/2, 0, 1000000), right(api.MaxMoney, 1, api.MaxMoney-1, 999999),
		wrong(api.MaxMoney, 1, 0), wrong(1, api.MaxMoney, 0), wrong(api.MaxMoney, 0, 1), wrong(api.MaxMoney/2, 1, 1000000),
		wrong(api.MaxMoney/2+1, 0, 1000000), wrong(api.MaxMoney, 0, 1000000), wrong(api.MaxMoney, api.MaxMoney, 0),
		wrong(api.MaxMoney, 0, api.MaxMoney), wrong(1, api.MaxMoney-1, 1000000), wrong(1000, api.MaxMoney, 1000),
		wrong(-1, 0, 0), wrong(-1, 1, 0), wrong(0, -1, 0), wrong(1, -1, 0), wrong(0, 0, -1), wrong(5, 5, -1),
		wrong(api.MaxMoney+1, 0, 0), wrong(0, api.MaxMoney+1, 0), wrong(0, 0, api.MaxMoney+1),
		wrong(math.MaxInt64, 0, 0), wrong(0, math.MaxInt64, 0), wrong(0, 0, math.MaxInt64), wrong(math.MaxInt64, math.MaxInt64, math.MaxInt64),
		wrong(math.MinInt64, 0, 0), wrong(0, math.MinInt64, 0), wrong(0, 0, math.MinInt64), wrong(math.MinInt64, math.MinInt64, math.MinInt64),
	})
}

func feeAndGross(t *testing.T, amount, base, rate int64) {
	t.Helper()
	want, err := answer(feeOf(amount, base, rate), api.MaxMoney, amount, base, rate)
	n, e := Fee(amount, base, rate)
	is(t, fmt.Sprint("Fee ", amount, " ", base, " ", rate), n, e, want, err)
	if err == api.OK {
		want, err = answer(grossOf(amount, base, rate), api.MaxMoney)
	}
	n, e = Gross(amount, base, rate)
	is(t, fmt.Sprint("Gross ", amount, " ", base, " ", rate), n, e, want, err)
}

func TestP4_3Triples(t *testing.T) {
	for _, amount := range edges() {
		for _, base := range edges() {
			for _, rate := range edges() {
				feeAndGross(t, amount, base, rate)
			}
		}
	}
}

func TestP4_3Drawn(t *testing.T) {
	draw := rand.New(rand.NewSource(43))
	for range 100000 {
		feeAndGross(t, drawn(draw), drawn(draw), drawn(draw))
	}
}

// The base that just leaves room for the share, and one more.
func TestP4_3JustRoom(t *testing.T) {
	draw := rand.New(rand.NewSource(431))
	for range 20000 {
		a := amount(draw, api.MaxMoney)
		rate := amount(draw, 1000000)
		share := part(a, rate, 1000000).Int64()
		n, e := Fee(a, api.MaxMoney-share, rate)
		is(t, fmt.Sprint("Fee with just room ", a, " ", rate), n, e, api.MaxMoney, api.OK)
		n, e = Fee(a, api.MaxMoney-share+1, rate)
		is(t, fmt.Sprint("Fee without room ", a, " ", rate), n, e, 0, api.ErrMoney)
		if a > api.MaxMoney-share {
			continue
		}
		n, e = Gross(a, api.MaxMoney-share-a, rate)
		is(t, fmt.Sprint("Gross with just room ", a, " ", rate), n, e, api.MaxMoney, api.OK)
		n, e = Gross(a, api.MaxMoney-share-a+1, rate)
		is(t, fmt.Sprint("Gross without room ", a, " ", rate), n, e, 0, api.ErrMoney)
	}
}

func TestP4_4CostRows(t *testing.T) {
	rows(t, "Cost", two(Cost), []row{
		right(183, 253, 724), right(0, 0, 0), right(0, 1, 999), right(1, 1, 1000), right(1, 1000, 1), right(1, 1, 1999), right(2, 2, 1000),
		right(0, 0, api.MaxCoin), right(0, api.MaxCoin, 0), right(2100000000000, api.MaxCoin, 1), right(2100000000000, 1, api.MaxCoin),
		right(api.MaxCoin, api.MaxCoin, 1000), right(api.MaxCoin, 1000, api.MaxCoin), right(2097900000000000, api.MaxCoin, 999),
		right(1000000000000000, 1000000000, 1000000000), right(2000000000000000, 2000000000, 1000000000),
		right(api.MaxCoin, 562259, 3734933544861), wrong(1012, 2075098814229250), // 999 and 1000 more than a thousand times all there is
		wrong(api.MaxCoin, 1001), wrong(1001, api.MaxCoin), wrong(api.MaxCoin, api.MaxCoin), wrong(1<<32, 1<<32), wrong(1<<40, 1<<40),
		wrong(-1, 0), wrong(0, -1), wrong(-1, -1), wrong(-1000, -1000), wrong(5, -5),
		wrong(api.MaxCoin+1, 0), wrong(0, api.MaxCoin+1), wrong(api.MaxCoin+1, 1), wrong(1, api.MaxCoin+1),
		wrong(api.MaxMoney, 0), wrong(0, api.MaxMoney), wrong(1, api.MaxMoney), wrong(api.MaxMoney, 1),
		wrong(math.MaxInt64, 0), wrong(0, math.MaxInt64), wrong(math.MaxInt64, math.MaxInt64),
		wrong(math.MinInt64, 0), wrong(0, math.MinInt64), wrong(math.MinInt64, math.MinInt64), wrong(math.MinInt64, math.MaxInt64),
	})
}

func TestP4_4Pairs(t *testing.T) {
	draw := rand.New(rand.NewSource(44))
	check := func(rate, weight int64) {
		t.Helper()
		want, err := answer(part(rate, weight, 1000), api.MaxCoin, rate, weight)
		n, e := Cost(rate, weight)
		is(t, fmt.Sprint("Cost ", rate, " ", weight), n, e, want, err)
	}
	for _, rate := range edges() {
		for _, weight := range edges() {
			check(rate, weight)
		}
	}
	for range 100000 {
		check(drawn(draw), drawn(draw))
		check(amount(draw, api.MaxCoin), amount(draw, api.MaxCoin))
	}
}

// The greatest weight whose cost is coins, and one more.
func TestP4_4JustRoom(t *testing.T) {
	draw := rand.New(rand.NewSource(441))
	for range 20000 {
		rate := 1000 + amount(draw, api.MaxCoin-1000)
		most := new(big.Int).Mul(whole(api.MaxCoin+1), whole(1000))
		most.Sub(most, whole(1)).Div(most, whole(rate))
		weight := most.Int64()
		if weight > api.MaxCoin {
			weight = api.MaxCoin
		}
		n, e := Cost(rate, weight)
		is(t, fmt.Sprint("Cost with just room ", rate, " ", weight), n, e, part(rate, weight, 1000).Int64(), api.OK)
		n, e = Cost(rate, weight+1)
		is(t, fmt.Sprint("Cost without room ", rate, " ", weight+1), n, e, 0, api.ErrMoney)
	}
}

func TestP4_5Coins(t *testing.T) {
	for _, r := range []struct{ a, coins, rest int64 }{
		{1999, 1, 999}, {0, 0, 0}, {1, 0, 1}, {999, 0, 999}, {1000, 1, 0}, {1001, 1, 1},
		{api.MaxMoney, api.MaxCoin, 0}, {api.MaxMoney - 1, api.MaxCoin - 1, 999}, {api.MaxMoney - 1000, api.MaxCoin - 1, 0},
	} {
		if c, rest, e := Coins(r.a); c != r.coins || rest != r.rest || e != api.OK {
			t.Errorf("Coins(%d): %d, %d, error %d, want %d, %d", r.a, c, rest, e, r.coins, r.rest)
		}
	}
	for _, a := range []int64{-1, -1000, -1999, api.MaxMoney + 1, api.MaxMoney + 1000, math.MinInt64, math.MaxInt64} {
		if c, rest, e := Coins(a); c != 0 || rest != 0 || e != api.ErrMoney {
			t.Errorf("Coins(%d): %d, %d, error %d, want ErrMoney", a, c, rest, e)
		}
	}
}

func TestP4_5Milli(t *testing.T) {
	rows(t, "Milli", func(l ...int64) (int64, api.Errno) { return Milli(l[0]) }, []row{
		right(2000, 2), right(0, 0), right(1000, 1), right(api.MaxMoney, api.MaxCoin), right(api.MaxMoney-1000, api.MaxCoin-1),
		wrong(-1), wrong(-2), wrong(api.MaxCoin + 1), wrong(api.MaxMoney), wrong(math.MinInt64), wrong(math.MaxInt64),
		wrong(1 << 61), wrong(1 << 62), wrong(math.MinInt64 / 1000),
	})
}

func TestP4_5Edges(t *testing.T) {
	for _, n := range edges() {
		want, err := answer(part(n, 1, 1000), api.MaxMoney, n)
		c, rest, e := Coins(n)
		is(t, fmt.Sprint("Coins ", n), c, e, want, err)
		if err == api.OK && rest != n-1000*want || err != api.OK && rest != 0 {
			t.Errorf("Coins(%d): %d thousandths are left", n, rest)
		}
		want, err = answer(part(n, 1000, 1), api.MaxMoney, n)
		m, e := Milli(n)
		is(t, fmt.Sprint("Milli ", n), m, e, want, err)
	}
}

// There and back.
func TestP4_5Back(t *testing.T) {
	draw := rand.New(rand.NewSource(45))
	for range 20000 {
		a := amount(draw, api.MaxMoney)
		c, rest, _ := Coins(a)
		m, e := Milli(c)
		if back, e2 := Add(m, rest); e != api.OK || e2 != api.OK || back != a || rest < 0 || rest > 999 {
			t.Fatalf("%d is %d satoshi and %d: together %d, errors %d, %d", a, c, rest, back, e, e2)
		}
	}
}

// What was added can be taken away again.
func TestP4_6TakenAway(t *testing.T) {
	draw := rand.New(rand.NewSource(46))
	added := 0
	check := func(a, b int64) {
		t.Helper()
		sum, e := Add(a, b)
		if e != api.OK {
			return
		}
		added++
		n, e := Sub(sum, b)
		is(t, fmt.Sprint("Sub of ", a, " + ", b, ", the second"), n, e, a, api.OK)
		n, e = Sub(sum, a)
		is(t, fmt.Sprint("Sub of ", a, " + ", b, ", the first"), n, e, b, api.OK)
	}
	for _, a := range edges() {
		for _, b := range edges() {
			check(a, b)
		}
	}
	for range 50000 {
		check(amount(draw, api.MaxMoney), amount(draw, api.MaxMoney))
	}
	if added < 10000 {
		t.Errorf("only %d were added", added)
	}
}

// Nothing that is answered is outside the amounts there are, and nothing stands beside an error.
func TestP4_6Bounds(t *testing.T) {
	draw := rand.New(rand.NewSource(461))
	l := edges()
	for range 3000 {
		l = append(l, drawn(draw))
	}
	pick := func() int64 { return l[draw.Intn(len(l))] }
	for range 100000 {
		a, b, c := pick(), pick(), pick()
		var n [9]int64
		var e [9]api.Errno
		n[0], e[0] = Add(a, b)
		n[1], e[1] = Sub(a, b)
		n[2], e[2] = Sum(a, b, c)
		n[3], e[3] = Fee(a, b, c)
		n[4], e[4] = Gross(a, b, c)
		n[5], e[5] = Cost(a, b)
		n[6], n[7], e[6] = Coins(a)
		e[7] = e[6]
		n[8], e[8] = Milli(a)
		for i := range n {
			if n[i] < 0 || n[i] > api.MaxMoney || e[i] != api.OK && (e[i] != api.ErrMoney || n[i] != 0) {
				t.Fatalf("call %d of %d %d %d: %d, error %d", i, a, b, c, n[i], e[i])
			}
		}
		if n[5] > api.MaxCoin || n[6] > api.MaxCoin {
			t.Fatalf("coins of %d %d: %d, %d", a, b, n[5], n[6])
		}
	}
}

// A greater amount has no smaller fee; one that has none any more stays without.
func TestP4_6Rising(t *testing.T) {
	draw := rand.New(rand.NewSource(462))
	for range 50000 {
		a, b := amount(draw, api.MaxMoney), amount(draw, api.MaxMoney)
		if draw.Intn(2) == 0 {
			b = min(a+int64(draw.Intn(3)), api.MaxMoney)
		}
		a, b = min(a, b), max(a, b)
		base, rate := amount(draw, api.MaxMoney), amount(draw, 4000000)
		small, e := Fee(a, base, rate)
		great, f := Fee(b, base, rate)
		if f == api.OK && (e != api.OK || small > great) {
			t.Fatalf("Fee of %d: %d (error %d), of %d: %d (error %d), base %d, rate %d", a, small, e, b, great, f, base, rate)
		}
	}
}

// The fee of a sum is not less than the shares of its parts together, and at most one thousandth more for each.
func TestP4_6Parts(t *testing.T) {
	draw := rand.New(rand.NewSource(463))
	more := 0
	for range 20000 {
		parts := make([]int64, 1+draw.Intn(8))
		shares := make([]int64, len(parts))
		base, rate := amount(draw, api.MaxMoney/4), amount(draw, 1000000)
		for i := range parts {
			parts[i] = amount(draw, api.MaxMoney/32)
			share, e := Fee(parts[i], 0, rate)
			if e != api.OK {
				t.Fatalf("Fee of %d at %d: error %d", parts[i], rate, e)
			}
			shares[i] = share
		}
		sum, e := Sum(parts...)
		together, e2 := Sum(append(shares, base)...)
		fee, e3 := Fee(sum, base, rate)
		if e != api.OK || e2 != api.OK || e3 != api.OK || fee < together || fee > together+int64(len(parts)) {
			t.Fatalf("Fee of %v together: %d, of each: %d, errors %d, %d, %d", parts, fee, together, e, e2, e3)
		}
		if fee > together {
			more++
		}
	}
	if more == 0 {
		t.Error("no sum has more than its parts: nothing was rounded down")
	}
}
