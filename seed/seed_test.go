package seed

import (
	"math"
	"math/bits"
	"math/rand"
	"slices"
	"strings"
	"testing"

	"sluiceway/api"
)

// isSecret asks Secret for one answer.
func isSecret(t *testing.T, seed api.Term, i int64, want api.Term, wantE api.Errno) {
	t.Helper()
	if x, e := Secret(seed, i); x != want || e != wantE {
		t.Fatalf("Secret(%.40q, %d): %.200q, %d, want %.200q, %d", seed, i, x, e, want, wantE)
	}
}

// topOf7 is n7;'s secret at Top.
const topOf7 = "DDDDDDDDDDDDDDDDDDDDn7;t2:19t2:18t2:17t2:16t2:15t2:14t2:13t2:12t2:11t2:10t1:9t1:8t1:7t1:6t1:5t1:4t1:3t1:2t1:1t1:0"

func TestP15_1Secret(t *testing.T) {
	for i, want := range map[int64]api.Term{
		0:           "n7;",
		1:           "Dn7;t1:0",
		2:           "Dn7;t1:1",
		3:           "DDn7;t1:1t1:0",
		4:           "Dn7;t1:2",
		5:           "DDn7;t1:2t1:0",
		6:           "DDn7;t1:2t1:1",
		7:           "DDDn7;t1:2t1:1t1:0",
		8:           "Dn7;t1:3",
		16:          "Dn7;t1:4",
		32:          "Dn7;t1:5",
		64:          "Dn7;t1:6",
		128:         "Dn7;t1:7",
		256:         "Dn7;t1:8",
		512:         "Dn7;t1:9",
		1024:        "Dn7;t2:10",
		2048:        "Dn7;t2:11",
		4096:        "Dn7;t2:12",
		8192:        "Dn7;t2:13",
		16384:       "Dn7;t2:14",
		32768:       "Dn7;t2:15",
		65536:       "Dn7;t2:16",
		131072:      "Dn7;t2:17",
		262144:      "Dn7;t2:18",
		524288:      "Dn7;t2:19",
		524289:      "DDn7;t2:19t1:0",
		1536:        "DDn7;t2:10t1:9",
		699050:      "DDDDDDDDDDn7;t2:19t2:17t2:15t2:13t2:11t1:9t1:7t1:5t1:3t1:1",
		api.Top - 1: api.Term(strings.TrimSuffix(topOf7, "t1:0")[1:]),
		api.Top:     topOf7,
	} {
		isSecret(t, "n7;", i, want, api.OK)
	}
	for _, s := range []api.Term{"t0:", "t3:n7;", "T2:n1;n2;", "Pn1;", "Vn1;n2;", "WPn1;Pn2;", "Dn7;t1:0", "DDn7;t1:0t2:19", "Bn1;t2:\x00\xff"} {
		isSecret(t, s, 0, s, api.OK)
		isSecret(t, s, 1, "D"+s+"t1:0", api.OK)
		isSecret(t, s, 3<<10, "DD"+s+"t2:11t2:10", api.OK)
	}
}

func TestP15_1ManyPlaces(t *testing.T) {
	for i := range int64(4096) {
		isSecret(t, "n9;", i, at("n9;", i), api.OK)
		isSecret(t, "n9;", api.Top-i, at("n9;", api.Top-i), api.OK)
	}
	r := rand.New(rand.NewSource(15))
	for range 4096 {
		i := r.Int63n(places)
		isSecret(t, "n9;", i, at("n9;", i), api.OK)
	}
}

func TestP15_1NoPlaces(t *testing.T) {
	for _, i := range strange() {
		isSecret(t, "n7;", i, "", api.ErrArg)
		isSecret(t, "n", i, "", api.ErrArg)
		isSecret(t, nest(64), i, "", api.ErrArg)
	}
}

func TestP15_1WrongSeeds(t *testing.T) {
	for _, s := range wrong() {
		for _, i := range []int64{0, 1, 1 << 19, api.Top} {
			isSecret(t, s, i, "", api.ErrTerm)
		}
	}
}

// edges are places with each number of bits that are 1, at either end, and others.
func edges() []int64 {
	l := []int64{0, 1 << 9, 1 << 10, 3 << 9, 0x3ff, 0xffc00, 0xaaaaa, 0x55555, 0x80001, api.Top}
	for k := range 20 {
		l = append(l, 1<<k, 1<<k-1, api.Top-(1<<k-1), api.Top-1<<k)
	}
	return l
}

// TestP15_1DeepSeeds: one with no room for a step, for one, up to all 20, at places with each number of steps.
func TestP15_1DeepSeeds(t *testing.T) {
	for deep := 43; deep <= 64; deep++ {
		s := nest(deep)
		for _, i := range edges() {
			if deep+bits.OnesCount64(uint64(i)) > 64 {
				isSecret(t, s, i, "", api.ErrLimit)
			} else {
				isSecret(t, s, i, at(s, i), api.OK)
			}
		}
	}
	isSecret(t, nest(44), api.Top, at(nest(44), api.Top), api.OK)
	isSecret(t, nest(45), api.Top, "", api.ErrLimit)
	isSecret(t, nest(45), api.Top-1, at(nest(45), api.Top-1), api.OK)
	isSecret(t, nest(64), 0, nest(64), api.OK)
	isSecret(t, nest(64), 1, "", api.ErrLimit)
	isSecret(t, nest(64), 1<<19, "", api.ErrLimit)
}

// TestP15_1LongSeeds: the same of its bytes: a step at 0 to 9 takes five, one at 10 to 19 six.
func TestP15_1LongSeeds(t *testing.T) {
	sizes := []int{16384 - 111, 16384 - 110, 16384 - 109, 16384 - 61, 16384 - 60, 16384 - 59, 16384 - 51, 16384 - 50, 16384 - 49}
	for n := 16384 - 12; n <= 16384; n++ {
		sizes = append(sizes, n)
	}
	for _, n := range sizes {
		s := sized(n)
		is(t, "the seed's bytes", len(s), n)
		for _, i := range edges() {
			if n+5*bits.OnesCount64(uint64(i&0x3ff))+6*bits.OnesCount64(uint64(i>>10)) > 16384 {
				isSecret(t, s, i, "", api.ErrLimit)
			} else {
				isSecret(t, s, i, at(s, i), api.OK)
			}
		}
	}
	isSecret(t, sized(16379), 1<<9, child(sized(16379), 9), api.OK)
	isSecret(t, sized(16379), 1<<10, "", api.ErrLimit)
	isSecret(t, sized(16380), 1, "", api.ErrLimit)
	isSecret(t, sized(16274), api.Top, at(sized(16274), api.Top), api.OK)
	isSecret(t, sized(16275), api.Top, "", api.ErrLimit)
}

func TestP15_2New(t *testing.T) {
	s, other := New(), New()
	is(t, "Count", s.Count(), 0)
	is(t, "Kept", s.Kept(), 0)
	lacks(t, s, near(s)...)
	adds(t, other, api.Top, "n1;")
	is(t, "Count of another one", s.Count(), 0)
	lacks(t, s, api.Top)
	adds(t, s, api.Top, "n2;")
	gets(t, other, api.Top, "n1;")
}

// TestP15_2ZeroValue: a Store made by hand is as New is.
func TestP15_2ZeroValue(t *testing.T) {
	s := Store{}
	is(t, "a zero value", told(&s), told(New()))
	refuses(t, &s, 0, "n7;", api.ErrArg)
	hears(t, &s, "n7;", api.Top-9)
	is(t, "behind ten secrets", told(&s), told(grown(t, 10)))
}

func TestP15_2Nil(t *testing.T) {
	var s *Store
	for _, i := range append(strange(), 0, 1, api.Top-1, api.Top) {
		is(t, "Add", s.Add(i, "n7;"), api.ErrNil)
		is(t, "Add of no right term", s.Add(i, "n"), api.ErrNil)
		x, e := s.Get(i)
		is(t, "Get", x, "")
		is(t, "Get", e, api.ErrNil)
	}
	is(t, "Count", s.Count(), 0)
	is(t, "Kept", s.Kept(), 0)
	is(t, "Copy", s.Copy(), nil)
}

// counts are numbers of heard secrets behind which a place comes with each number of low bits that are 0, and others; places itself is not among them.
func counts() []int64 {
	l := []int64{2, 5, 6, 10, 11, 100, 0xaaaaa, 0x55555, places - 2, places - 3, places / 2}
	for k := range 21 {
		l = append(l, 1<<k-1)
	}
	return l
}

// TestP15_2AllPlaces: each place in its order is heard, with all that Count and Kept tell behind it.
func TestP15_2AllPlaces(t *testing.T) {
	is(t, "all places in their order", whole().wrong, "")
	s := grown(t, places)
	is(t, "Count", s.Count(), places)
	is(t, "Kept", s.Kept(), 1)
	for _, i := range append(strange(), 0, 1, api.Top, api.Top-1) {
		refuses(t, s, i, at("n7;", i&api.Top), api.ErrArg)
	}
}

// TestP15_2OutOfTurn: what comes next is the one place below, whatever secret comes with it.
func TestP15_2OutOfTurn(t *testing.T) {
	for _, n := range counts() {
		s := grown(t, n)
		i := next(s)
		others := append(strange(), i+1, i-1, i+2, i-2, i-256, i-65536, i-places, i+places, i^1<<19, -i, 0, 1, api.Top, api.Top-1)
		for _, other := range others {
			if other == i {
				continue
			}
			refuses(t, s, other, at("n7;", other&api.Top), api.ErrArg)
			refuses(t, s, other, "n", api.ErrArg)
		}
		adds(t, s, i, at("n7;", i))
		refuses(t, s, i, at("n7;", i), api.ErrArg)
	}
}

func TestP15_2TheSameTwice(t *testing.T) {
	s := New()
	for i := int64(api.Top); i > api.Top-70; i-- {
		adds(t, s, i, at("n7;", i))
		refuses(t, s, i, at("n7;", i), api.ErrArg)
		refuses(t, s, api.Top, at("n7;", api.Top), api.ErrArg)
		refuses(t, s, i-2, at("n7;", i-2), api.ErrArg)
	}
}

// TestP15_2WrongTerms: they are refused where anything else may be heard, and where no other secret may be.
func TestP15_2WrongTerms(t *testing.T) {
	for _, n := range counts() {
		s := grown(t, n)
		for _, x := range wrong() {
			refuses(t, s, next(s), x, api.ErrTerm)
		}
		adds(t, s, next(s), at("n7;", next(s)))
	}
}

// TestP15_2AnyMayCome: at a place whose lowest bit is 1 there is nothing to make.
func TestP15_2AnyMayCome(t *testing.T) {
	for _, n := range []int64{0, 2, 4, 6, 510, 512, 1022, places - 2} {
		for _, x := range []api.Term{"n7;", "n9;", "t0:", "T0:", "Pn1;", nest(64), sized(16384), topOf7, at("n7;", 0), at("n7;", api.Top-n+1)} {
			s := grown(t, n)
			kept := s.Kept()
			adds(t, s, next(s), x)
			is(t, "Kept", s.Kept(), kept+1)
			gets(t, s, next(s)+1, x)
			for m := max(0, n-40); m < n; m++ {
				gets(t, s, api.Top-m, at("n7;", api.Top-m))
			}
		}
	}
}

// TestP15_2MakesAll: with secrets that are written out; n5; is the seed of the last four places.
func TestP15_2MakesAll(t *testing.T) {
	s := New()
	adds(t, s, 1048575, "DDn5;t1:1t1:0")
	refuses(t, s, 1048574, "n5;", api.ErrSeed)
	refuses(t, s, 1048574, "Dn5;t1:0", api.ErrSeed)
	refuses(t, s, 1048574, "DDn5;t1:1t1:0", api.ErrSeed)
	adds(t, s, 1048574, "Dn5;t1:1")
	is(t, "Kept", s.Kept(), 1)
	adds(t, s, 1048573, "Dn5;t1:0")
	is(t, "Kept", s.Kept(), 2)
	refuses(t, s, 1048572, "Dn5;t1:1", api.ErrSeed)
	refuses(t, s, 1048572, "Dn5;t1:0", api.ErrSeed)
	refuses(t, s, 1048572, "n6;", api.ErrSeed)
	adds(t, s, 1048572, "n5;")
	is(t, "Kept", s.Kept(), 1)
	for i, want := range map[int64]api.Term{1048575: "DDn5;t1:1t1:0", 1048574: "Dn5;t1:1", 1048573: "Dn5;t1:0", 1048572: "n5;"} {
		gets(t, s, i, want)
	}
	lacks(t, s, 1048571, 1048570, 0)
}

// TestP15_2MakesSome: two were heard that no one secret makes. Each of those that make one is refused, and so is all else.
func TestP15_2MakesSome(t *testing.T) {
	s := New()
	adds(t, s, 1048575, "DDn5;t1:1t1:0")
	adds(t, s, 1048574, "Dn5;t1:1")
	adds(t, s, 1048573, "Dn6;t1:0")
	for _, x := range []api.Term{"n5;", "n6;", "n7;", "Dn5;t1:1", "Dn6;t1:0", "T2:n5;n6;", "Vn5;n6;"} {
		refuses(t, s, 1048572, x, api.ErrSeed)
	}
	for i, want := range map[int64]api.Term{1048575: "DDn5;t1:1t1:0", 1048574: "Dn5;t1:1", 1048573: "Dn6;t1:0"} {
		gets(t, s, i, want)
	}
	is(t, "Kept", s.Kept(), 2)
}

// TestP15_2MakesNone: at each place that has to make something, by another seed, another place, a step more or less.
func TestP15_2MakesNone(t *testing.T) {
	for _, n := range counts() {
		s := grown(t, n)
		i := next(s)
		k := lowZeros(i)
		if k == 0 {
			continue
		}
		right := at("n7;", i)
		l := []api.Term{"n8;", "t2:n7", at("n8;", i), at("n7;", i^1<<k&api.Top), child(right, 0), child(right, k), at("n7;", i+1), at("n7;", i+1<<(k-1)), at("n7;", (i-1)&api.Top)}
		if right != "n7;" {
			l = append(l, "n7;")
		}
		for b := range k {
			l = append(l, child(right, b))
		}
		for _, x := range l {
			if x != right {
				refuses(t, s, i, x, api.ErrSeed)
			}
		}
		adds(t, s, i, right)
	}
}

// TestP15_2AllButOne: what is kept by b bits is another seed's. Neither this one's secret nor that one's makes all that it has to, where k bits are 0.
func TestP15_2AllButOne(t *testing.T) {
	for k := 1; k <= 20; k++ {
		for b := range min(k, 10) {
			i := int64(places - 1<<k)
			s := grown(t, places-(i+2<<b))
			hears(t, s, "n8;", i+1<<b)
			hears(t, s, "n7;", i+1)
			is(t, "Kept", s.Kept(), k)
			refuses(t, s, i, at("n7;", i), api.ErrSeed)
			if k > 1 {
				refuses(t, s, i, at("n8;", i), api.ErrSeed)
				continue
			}
			adds(t, s, i, at("n8;", i))
		}
	}
}

// TestP15_2HalfAndHalf: the same of the other end: the upper half of all places is another seed's, and the last place has to make both.
func TestP15_2HalfAndHalf(t *testing.T) {
	s := New()
	hears(t, s, "n8;", places/2)
	is(t, "Kept", s.Kept(), 1)
	hears(t, s, "n7;", 1)
	is(t, "Kept", s.Kept(), 20)
	refuses(t, s, 0, "n7;", api.ErrSeed)
	refuses(t, s, 0, "n8;", api.ErrSeed)
	gets(t, s, places/2, at("n8;", places/2))
	gets(t, s, api.Top, at("n8;", api.Top))
	gets(t, s, places/2-1, at("n7;", places/2-1))
	gets(t, s, 1, at("n7;", 1))
}

// TestP15_2RefusedStep: what has no room for a step makes nothing; at a place where nothing has to be made it is heard.
func TestP15_2RefusedStep(t *testing.T) {
	for _, x := range []api.Term{nest(64), sized(16384), sized(16383), sized(16380)} {
		for _, n := range counts() {
			s := grown(t, n)
			if lowZeros(next(s)) > 0 {
				refuses(t, s, next(s), x, api.ErrSeed)
			}
		}
		s := New()
		adds(t, s, api.Top, x)
		refuses(t, s, api.Top-1, x, api.ErrSeed)
		refuses(t, s, api.Top-1, "n7;", api.ErrSeed)
		gets(t, s, api.Top, x)
	}
}

// TestP15_2RoomForAStep: the deepest and longest secrets that make one.
func TestP15_2RoomForAStep(t *testing.T) {
	for _, x := range []api.Term{nest(63), sized(16379)} {
		s := New()
		adds(t, s, api.Top, child(x, 0))
		refuses(t, s, api.Top-1, child(x, 0), api.ErrSeed)
		adds(t, s, api.Top-1, x)
		gets(t, s, api.Top, child(x, 0))
		gets(t, s, api.Top-1, x)
		refuses(t, s, api.Top-2, x+"n", api.ErrTerm)
		adds(t, s, api.Top-2, child(x, 0))
		refuses(t, s, api.Top-3, x, api.ErrSeed)
		gets(t, s, api.Top, child(x, 0))
	}
	for _, seed := range []api.Term{nest(44), sized(16274)} {
		s := New()
		hears(t, s, seed, api.Top-40)
		for i := next(s) + 1; i <= api.Top; i++ {
			gets(t, s, i, at(seed, i))
		}
	}
}

// TestP15_2LikeSecrets: the same term at two places is kept for both, as what it has to make is told by places.
func TestP15_2LikeSecrets(t *testing.T) {
	s := New()
	adds(t, s, api.Top, "DDn5;t1:0t1:0")
	adds(t, s, api.Top-1, "Dn5;t1:0")
	adds(t, s, api.Top-2, "Dn5;t1:0")
	is(t, "Kept", s.Kept(), 2)
	gets(t, s, api.Top, "DDn5;t1:0t1:0")
	gets(t, s, api.Top-1, "Dn5;t1:0")
	gets(t, s, api.Top-2, "Dn5;t1:0")
	refuses(t, s, api.Top-3, "n5;", api.ErrSeed)
}

// TestP15_3GetAll: behind each of many Adds, all that was heard, and nothing else.
func TestP15_3GetAll(t *testing.T) {
	s := New()
	for i := int64(api.Top); i > api.Top-300; i-- {
		adds(t, s, i, at("n7;", i))
		for j := i; j <= api.Top; j++ {
			gets(t, s, j, at("n7;", j))
		}
		lacks(t, s, i-1, i-2, i-3, 1, 0)
		lacks(t, s, strange()...)
	}
}

// TestP15_3GetFar: of stores that heard many: each place that is kept, those beside it, and drawn ones.
func TestP15_3GetFar(t *testing.T) {
	r := rand.New(rand.NewSource(3))
	for _, n := range append(counts(), places) {
		s := grown(t, n)
		for k := range 21 {
			if n>>k&1 == 0 {
				continue
			}
			first := places - n>>k<<k
			for _, i := range []int64{first, first + 1, first + 1<<k - 1, first + 1<<k/2} {
				gets(t, s, min(i, api.Top), at("n7;", min(i, api.Top)))
			}
		}
		for range min(n, 500) {
			i := api.Top - r.Int63n(n)
			gets(t, s, i, at("n7;", i))
		}
		for range min(places-n, 100) {
			lacks(t, s, r.Int63n(places-n))
		}
		lacks(t, s, next(s))
		lacks(t, s, strange()...)
	}
}

// TestP15_3GetEvery: of a store that heard all.
func TestP15_3GetEvery(t *testing.T) {
	s := grown(t, places)
	for i := range int64(places) {
		if i%7 == 0 || i < 2000 || i > api.Top-2000 {
			gets(t, s, i, at("n7;", i))
		}
	}
	lacks(t, s, -1, places, math.MinInt64, math.MaxInt64)
}

// TestP15_3Kept: with written-out numbers; behind each Add of all places it is asked for by whole.
func TestP15_3Kept(t *testing.T) {
	is(t, "all places in their order", whole().wrong, "")
	want := []int{0, 1, 1, 2, 1, 2, 2, 3, 1, 2, 2, 3, 2, 3, 3, 4, 1}
	s := New()
	for n, k := range want {
		is(t, "Count", s.Count(), int64(n))
		is(t, "Kept", s.Kept(), k)
		hears(t, s, "n7;", next(s))
	}
	for n, k := range map[int64]int{0xfffff: 20, 0xffffe: 19, 0x7ffff: 19, 0xbffff: 19, 0x80000: 1, 0x80001: 2, 0xaaaaa: 10, 0x3ff: 10, 0x400: 1, 0x100000: 1} {
		is(t, "Kept", grown(t, n).Kept(), k)
	}
}

// TestP15_3OnlyAsked: what is asked changes nothing.
func TestP15_3OnlyAsked(t *testing.T) {
	for _, n := range counts() {
		s := grown(t, n)
		was := told(s)
		for range 3 {
			is(t, "what it tells", told(s), was)
			s.Copy()
		}
		adds(t, s, next(s), at("n7;", next(s)))
	}
}

func TestP15_4Copy(t *testing.T) {
	for _, n := range append(counts(), places) {
		s := grown(t, n)
		was := told(s)
		c := s.Copy()
		is(t, "apart", c != s, true)
		is(t, "what a copy tells", told(c), was)
		if n == places {
			refuses(t, c, -1, "n7;", api.ErrArg)
			continue
		}
		last := max(0, next(s)-5)
		hears(t, c, "n7;", last)
		is(t, "what is told once a copy heard more", told(s), was)
		refuses(t, s, next(s)-1, "n7;", api.ErrArg)
		is(t, "what a copy tells that heard more", told(c), told(grown(t, places-last)))
		was = told(c)
		if lowZeros(next(s)) == 0 {
			adds(t, s, next(s), "n8;")
			gets(t, s, next(s)+1, "n8;")
		} else {
			hears(t, s, "n7;", next(s))
		}
		is(t, "what a copy tells once the first one heard more", told(c), was)
	}
}

// TestP15_4Many: copies of a copy, each of which hears on by itself.
func TestP15_4Many(t *testing.T) {
	s := New()
	var l []*Store
	for i := int64(api.Top); i > api.Top-50; i-- {
		l = append(l, s)
		s = s.Copy()
		hears(t, s, "n7;", i)
	}
	for n, c := range l {
		is(t, "Count", c.Count(), int64(n))
		is(t, "what each tells", told(c), told(grown(t, int64(n))))
	}
	slices.Reverse(l)
	for _, c := range l {
		hears(t, c, "n7;", api.Top-60)
		is(t, "what each tells", told(c), told(grown(t, 61)))
	}
}
