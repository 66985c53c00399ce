package keys

import (
	"math"
	"strings"
	"testing"

	"sluiceway/api"
)

func TestP16_1Node(t *testing.T) {
	isNode(t, "n1;", "Dn1;T2:t4:nodet1:0", api.OK)
	isNode(t, "n7;", "Dn7;T2:t4:nodet1:0", api.OK)
	isNode(t, "Dn1;T2:t4:nodet1:0", "DDn1;T2:t4:nodet1:0T2:t4:nodet1:0", api.OK)
	for _, p := range pairs() {
		isNode(t, p.secret, "D"+p.secret+"T2:t4:nodet1:0", api.OK)
	}
}

func TestP16_1Coin(t *testing.T) {
	for n, want := range map[int64]api.Term{
		0:             "Dn1;T2:t4:coint1:0",
		1:             "Dn1;T2:t4:coint1:1",
		7:             "Dn1;T2:t4:coint1:7",
		9:             "Dn1;T2:t4:coint1:9",
		10:            "Dn1;T2:t4:coint2:10",
		99:            "Dn1;T2:t4:coint2:99",
		100:           "Dn1;T2:t4:coint3:100",
		1048575:       "Dn1;T2:t4:coint7:1048575",
		1048576:       "Dn1;T2:t4:coint7:1048576",
		1<<31 - 1:     "Dn1;T2:t4:coint10:2147483647",
		1 << 32:       "Dn1;T2:t4:coint10:4294967296",
		1<<63 - 2:     "Dn1;T2:t4:coint19:9223372036854775806",
		math.MaxInt64: "Dn1;T2:t4:coint19:9223372036854775807",
	} {
		isCoin(t, "n1;", n, want, api.OK)
	}
	for _, p := range pairs() {
		isCoin(t, p.secret, 0, "D"+p.secret+"T2:t4:coint1:0", api.OK)
		isCoin(t, p.secret, math.MaxInt64, "D"+p.secret+"T2:t4:coint19:9223372036854775807", api.OK)
	}
}

// TestP16_1BelowNought: whatever the root is, so that of two errors the first one is told.
func TestP16_1BelowNought(t *testing.T) {
	for _, n := range strange() {
		for _, root := range append(wrong(), "n1;", nest(64), sized(api.MaxTerm)) {
			isCoin(t, root, n, "", api.ErrArg)
		}
	}
}

func TestP16_1WrongRoots(t *testing.T) {
	for _, root := range wrong() {
		isNode(t, root, "", api.ErrTerm)
		for _, n := range []int64{0, 1, math.MaxInt64} {
			isCoin(t, root, n, "", api.ErrTerm)
		}
	}
}

// TestP16_1NoRoom: the deepest and longest roots that have a child, and the first that have none. The child for node and 0 takes 15 bytes, that for coin and the greatest number 34.
func TestP16_1NoRoom(t *testing.T) {
	for _, root := range []api.Term{nest(63), sized(16384 - 15), sized(16384 - 16)} {
		isNode(t, root, "D"+root+"T2:t4:nodet1:0", api.OK)
		isCoin(t, root, 0, "D"+root+"T2:t4:coint1:0", api.OK)
		isCoin(t, root, 9, "D"+root+"T2:t4:coint1:9", api.OK)
	}
	for _, root := range []api.Term{nest(64), sized(16384 - 14), sized(16384)} {
		isNode(t, root, "", api.ErrLimit)
		isCoin(t, root, 0, "", api.ErrLimit)
		isCoin(t, root, math.MaxInt64, "", api.ErrLimit)
	}
	root := sized(16384 - 15)
	isCoin(t, root, 10, "", api.ErrLimit)
	isCoin(t, sized(16384-34), math.MaxInt64, "D"+sized(16384-34)+"T2:t4:coint19:9223372036854775807", api.OK)
	isCoin(t, sized(16384-33), math.MaxInt64, "", api.ErrLimit)
}

func TestP16_2Channel(t *testing.T) {
	isChannel(t, "n1;", 2, api.Secrets{
		Fund:  "DDn1;T2:t7:channelt1:2T2:t4:fundt1:0",
		Rev:   "DDn1;T2:t7:channelt1:2T2:t3:revt1:0",
		Pay:   "DDn1;T2:t7:channelt1:2T2:t3:payt1:0",
		Later: "DDn1;T2:t7:channelt1:2T2:t5:latert1:0",
		Htlc:  "DDn1;T2:t7:channelt1:2T2:t4:htlct1:0",
		Seed:  "DDn1;T2:t7:channelt1:2T2:t4:seedt1:0",
	}, api.OK)
	isChannel(t, "n5;", math.MaxInt64, api.Secrets{
		Fund:  "DDn5;T2:t7:channelt19:9223372036854775807T2:t4:fundt1:0",
		Rev:   "DDn5;T2:t7:channelt19:9223372036854775807T2:t3:revt1:0",
		Pay:   "DDn5;T2:t7:channelt19:9223372036854775807T2:t3:payt1:0",
		Later: "DDn5;T2:t7:channelt19:9223372036854775807T2:t5:latert1:0",
		Htlc:  "DDn5;T2:t7:channelt19:9223372036854775807T2:t4:htlct1:0",
		Seed:  "DDn5;T2:t7:channelt19:9223372036854775807T2:t4:seedt1:0",
	}, api.OK)
}

// secretsOf are a channel's secrets, written by hand.
func secretsOf(channel api.Term) api.Secrets {
	return api.Secrets{
		Fund:  kid(channel, "fund", "0"),
		Rev:   kid(channel, "rev", "0"),
		Pay:   kid(channel, "pay", "0"),
		Later: kid(channel, "later", "0"),
		Htlc:  kid(channel, "htlc", "0"),
		Seed:  kid(channel, "seed", "0"),
	}
}

func TestP16_2ChannelRoots(t *testing.T) {
	for _, p := range pairs() {
		for n, d := range map[int64]string{0: "0", 1: "1", 12: "12", 1 << 40: "1099511627776", math.MaxInt64: "9223372036854775807"} {
			isChannel(t, p.secret, n, secretsOf(kid(p.secret, "channel", d)), api.OK)
		}
	}
}

func TestP16_2BelowNought(t *testing.T) {
	for _, n := range strange() {
		for _, root := range append(wrong(), "n1;", nest(64), sized(api.MaxTerm)) {
			isChannel(t, root, n, api.Secrets{}, api.ErrArg)
		}
	}
}

func TestP16_2WrongRoots(t *testing.T) {
	for _, root := range wrong() {
		for _, n := range []int64{0, 1, math.MaxInt64} {
			isChannel(t, root, n, api.Secrets{}, api.ErrTerm)
		}
	}
}

// TestP16_2DeepRoots: with room for both steps, for one, for none.
func TestP16_2DeepRoots(t *testing.T) {
	isChannel(t, nest(62), 0, secretsOf(kid(nest(62), "channel", "0")), api.OK)
	isCoin(t, nest(63), 0, kid(nest(63), "coin", "0"), api.OK)
	isChannel(t, nest(63), 0, api.Secrets{}, api.ErrLimit)
	isChannel(t, nest(64), 0, api.Secrets{}, api.ErrLimit)
}

// TestP16_2LongRoots: the first step takes 18 bytes, or 36 for the greatest number; of the second ones those of rev and pay 14, that of later 16, the others 15: with room for all, for some, for none, and for no first step.
func TestP16_2LongRoots(t *testing.T) {
	for _, root := range []api.Term{sized(16384 - 18 - 16), sized(16384 - 18 - 17)} {
		isChannel(t, root, 9, secretsOf(kid(root, "channel", "9")), api.OK)
	}
	root := sized(16384 - 37 - 16)
	isChannel(t, root, math.MaxInt64, secretsOf(kid(root, "channel", "9223372036854775807")), api.OK)
	isChannel(t, sized(16384-37-15), math.MaxInt64, api.Secrets{}, api.ErrLimit)
	for n := 16384 - 18 - 15; n <= 16384; n++ {
		isChannel(t, sized(n), 9, api.Secrets{}, api.ErrLimit)
	}
}

func TestP16_2Public(t *testing.T) {
	isPublic(t, api.Secrets{Fund: "n1;", Rev: "n2;", Pay: "n3;", Later: "n4;", Htlc: "n5;", Seed: "n6;"},
		api.Keys{Fund: "Pn1;", Rev: "Pn2;", Pay: "Pn3;", Later: "Pn4;", Htlc: "Pn5;"}, api.OK)
	isPublic(t, api.Secrets{Fund: "Vn1;n2;", Rev: "Kn1;t1:x", Pay: "Pn3;", Later: "t0:", Htlc: "Dn5;n5;", Seed: "n6;"},
		api.Keys{Fund: "WPn1;Pn2;", Rev: "LPn1;t1:x", Pay: "PPn3;", Later: "Pt0:", Htlc: "PDn5;n5;"}, api.OK)
	l := pairs()
	at := func(i int) pair { return l[i%len(l)] }
	for i := range l {
		s := api.Secrets{Fund: at(i).secret, Rev: at(i + 1).secret, Pay: at(i + 2).secret, Later: at(i + 3).secret, Htlc: at(i + 4).secret}
		k := api.Keys{Fund: at(i).public, Rev: at(i + 1).public, Pay: at(i + 2).public, Later: at(i + 3).public, Htlc: at(i + 4).public}
		isPublic(t, s, k, api.OK)
	}
}

// TestP16_2PublicSeed: the seed is not looked at.
func TestP16_2PublicSeed(t *testing.T) {
	for _, seed := range append(wrong(), "n6;", nest(64)) {
		isPublic(t, api.Secrets{Fund: "n1;", Rev: "n2;", Pay: "n3;", Later: "n4;", Htlc: "n5;", Seed: seed},
			api.Keys{Fund: "Pn1;", Rev: "Pn2;", Pay: "Pn3;", Later: "Pn4;", Htlc: "Pn5;"}, api.OK)
	}
	isPublic(t, api.Secrets{Seed: "n6;"}, api.Keys{}, api.ErrTerm)
	isPublic(t, api.Secrets{}, api.Keys{}, api.ErrTerm)
}

// five are secrets of which Public makes public keys, by their order.
func five(s *api.Secrets) [5]*api.Term {
	return [5]*api.Term{&s.Fund, &s.Rev, &s.Pay, &s.Later, &s.Htlc}
}

// unfit are secrets without public keys, by errors.
func unfit() map[api.Errno][]api.Term {
	return map[api.Errno][]api.Term{
		api.ErrTerm:  wrong(),
		api.ErrLimit: {nest(64), sized(16384), "V" + nest(63) + "n1;", "Vn1;" + nest(63), "K" + nest(63) + "n1;", "V" + sized(16380) + "n1;", "V" + sized(16379) + "n1;", "K" + sized(16380) + "n1;"},
	}
}

// TestP16_2PublicRefused: each of the five in turn.
func TestP16_2PublicRefused(t *testing.T) {
	for e, l := range unfit() {
		for _, x := range l {
			for i := range 5 {
				s := api.Secrets{Fund: "n1;", Rev: "n2;", Pay: "n3;", Later: "n4;", Htlc: "n5;", Seed: "n6;"}
				*five(&s)[i] = x
				isPublic(t, s, api.Keys{}, e)
			}
		}
	}
}

// TestP16_2PublicFirst: all choices of what is refused among the five, and by which error: the first one is told.
func TestP16_2PublicFirst(t *testing.T) {
	choices := [3]struct {
		x api.Term
		e api.Errno
	}{{"n1;", api.OK}, {"PVn1;n2;", api.ErrTerm}, {nest(64), api.ErrLimit}}
	for n := range 3 * 3 * 3 * 3 * 3 {
		var s api.Secrets
		first := api.OK
		for i, rest := 0, n; i < 5; i, rest = i+1, rest/3 {
			c := choices[rest%3]
			*five(&s)[i] = c.x
			if first == api.OK {
				first = c.e
			}
		}
		want := api.Keys{}
		if first == api.OK {
			want = api.Keys{Fund: "Pn1;", Rev: "Pn1;", Pay: "Pn1;", Later: "Pn1;", Htlc: "Pn1;"}
		}
		isPublic(t, s, want, first)
	}
}

// TestP16_2PublicRoom: the deepest and longest secrets that have public keys.
func TestP16_2PublicRoom(t *testing.T) {
	for _, p := range []pair{
		{nest(63), "P" + nest(63)},
		{sized(16383), "P" + sized(16383)},
		{"V" + nest(62) + "n1;", "WP" + nest(62) + "Pn1;"},
		{"V" + sized(16378) + "n1;", "WP" + sized(16378) + "Pn1;"},
		{"Kn1;" + nest(63), "LPn1;" + nest(63)},
		{"K" + nest(62) + "n1;", "LP" + nest(62) + "n1;"},
		{"K" + sized(16379) + "n1;", "LP" + sized(16379) + "n1;"},
		{under(63, "V", "n1;") + api.Term(strings.Repeat("n1;", 63)), ""},
		{under(62, "V", "n1;") + api.Term(strings.Repeat("n1;", 62)), under(62, "W", "Pn1;") + api.Term(strings.Repeat("Pn1;", 62))},
	} {
		s, want, wantE := api.Secrets{}, api.Keys{}, api.ErrLimit
		for _, x := range five(&s) {
			*x = p.secret
		}
		if p.public != "" {
			want, wantE = api.Keys{Fund: p.public, Rev: p.public, Pay: p.public, Later: p.public, Htlc: p.public}, api.OK
		}
		isPublic(t, s, want, wantE)
	}
}

// of7 are n7;'s secrets by commitments.
func of7() map[int64]api.Term {
	return map[int64]api.Term{
		api.Top:         "n7;",
		api.Top - 1:     "Dn7;t1:0",
		api.Top - 2:     "Dn7;t1:1",
		api.Top - 3:     "DDn7;t1:1t1:0",
		api.Top - 5:     "DDn7;t1:2t1:0",
		api.Top - 512:   "Dn7;t1:9",
		api.Top - 1024:  "Dn7;t2:10",
		api.Top/2 + 1:   "DDDDDDDDDDDDDDDDDDDn7;t2:18t2:17t2:16t2:15t2:14t2:13t2:12t2:11t2:10t1:9t1:8t1:7t1:6t1:5t1:4t1:3t1:2t1:1t1:0",
		api.Top / 2:     "Dn7;t2:19",
		api.Top/2 - 256: "DDn7;t2:19t1:8",
		5:               "DDDDDDDDDDDDDDDDDDn7;t2:19t2:18t2:17t2:16t2:15t2:14t2:13t2:12t2:11t2:10t1:9t1:8t1:7t1:6t1:5t1:4t1:3t1:1",
		1:               "DDDDDDDDDDDDDDDDDDDn7;t2:19t2:18t2:17t2:16t2:15t2:14t2:13t2:12t2:11t2:10t1:9t1:8t1:7t1:6t1:5t1:4t1:3t1:2t1:1",
		0:               "DDDDDDDDDDDDDDDDDDDDn7;t2:19t2:18t2:17t2:16t2:15t2:14t2:13t2:12t2:11t2:10t1:9t1:8t1:7t1:6t1:5t1:4t1:3t1:2t1:1t1:0",
	}
}

func TestP16_3Reveal(t *testing.T) {
	for n, want := range of7() {
		isReveal(t, api.Secrets{Seed: "n7;"}, n, want, api.OK)
		isReveal(t, api.Secrets{Fund: "n1;", Rev: "n2;", Pay: "n3;", Later: "n4;", Htlc: "n5;", Seed: "n7;"}, n, want, api.OK)
		isReveal(t, api.Secrets{Fund: "n", Rev: nest(64), Later: "q", Seed: "n7;"}, n, want, api.OK)
	}
	for _, p := range pairs() {
		isReveal(t, api.Secrets{Seed: p.secret}, api.Top, p.secret, api.OK)
		isReveal(t, api.Secrets{Seed: p.secret}, api.Top-3, "DD"+p.secret+"t1:1t1:0", api.OK)
	}
}

func TestP16_3Point(t *testing.T) {
	for n, secret := range of7() {
		isPoint(t, api.Secrets{Seed: "n7;"}, n, "P"+secret, api.OK)
		isPoint(t, api.Secrets{Fund: "n", Rev: nest(64), Later: "q", Seed: "n7;"}, n, "P"+secret, api.OK)
	}
	for _, p := range pairs() {
		isPoint(t, api.Secrets{Seed: p.secret}, api.Top, p.public, api.OK)
		isPoint(t, api.Secrets{Seed: p.secret}, api.Top-3, "PDD"+p.secret+"t1:1t1:0", api.OK)
	}
}

// TestP16_3NoCommitments: numbers that no commitment has, whatever the seed is.
func TestP16_3NoCommitments(t *testing.T) {
	for _, n := range append(strange(), api.Top+1, api.Top+2, 2*api.Top, 2*api.Top+1, 1<<31, 1<<32, 1<<32+5, math.MaxInt64, math.MaxInt64-1, math.MaxInt64-api.Top) {
		for _, seed := range append(wrong(), "n7;", nest(64), sized(api.MaxTerm)) {
			isReveal(t, api.Secrets{Seed: seed}, n, "", api.ErrArg)
			isPoint(t, api.Secrets{Seed: seed}, n, "", api.ErrArg)
		}
	}
}

func TestP16_3WrongSeeds(t *testing.T) {
	for _, seed := range wrong() {
		for _, n := range []int64{0, 1, api.Top - 1, api.Top} {
			s := api.Secrets{Fund: "n1;", Rev: "n2;", Pay: "n3;", Later: "n4;", Htlc: "n5;", Seed: seed}
			isReveal(t, s, n, "", api.ErrTerm)
			isPoint(t, s, n, "", api.ErrTerm)
		}
	}
}

// TestP16_3NoRoom: seeds that have no room for a step, or for all 20 of them; and secrets that have no room for a public key.
func TestP16_3NoRoom(t *testing.T) {
	for _, x := range []struct {
		seed           api.Term
		n              int64
		secret, public bool
	}{
		{nest(64), api.Top, true, false},
		{nest(63), api.Top, true, true},
		{nest(64), api.Top - 1, false, false},
		{nest(63), api.Top - 1, true, false},
		{nest(62), api.Top - 1, true, true},
		{nest(45), 0, false, false},
		{nest(44), 0, true, false},
		{nest(43), 0, true, true},
		{sized(16384), api.Top, true, false},
		{sized(16383), api.Top, true, true},
		{sized(16380), api.Top - 1, false, false},
		{sized(16379), api.Top - 1, true, false},
		{sized(16378), api.Top - 1, true, true},
		{sized(16384 - 109), 0, false, false},
		{sized(16384 - 110), 0, true, false},
		{sized(16384 - 111), 0, true, true},
		{"Vn1;" + nest(63), api.Top, true, false},
		{"V" + sized(16380) + "n1;", api.Top, true, false},
		{"Kn1;" + nest(63), api.Top, true, true},
		{"Kn1;" + nest(63), api.Top - 1, false, false},
	} {
		secret, e := bySteps(x.seed, x.n), api.OK
		if !x.secret {
			secret, e = "", api.ErrLimit
		}
		isReveal(t, api.Secrets{Seed: x.seed}, x.n, secret, e)
		public, e := publicOf(secret), api.OK
		if !x.public {
			public, e = "", api.ErrLimit
		}
		isPoint(t, api.Secrets{Seed: x.seed}, x.n, public, e)
	}
}

func TestP16_5Bind(t *testing.T) {
	isBind(t, "n1;", "Pn2;", "Kn1;Pn2;", api.OK)
	isBind(t, "Pn2;", "n1;", "KPn2;n1;", api.OK)
	isRevoke(t, "n1;", "n2;", "Vn1;n2;", api.OK)
	isRevoke(t, "n2;", "n1;", "Vn2;n1;", api.OK)
	for _, a := range pairs() {
		for _, b := range pairs() {
			for _, x := range []api.Term{b.secret, b.public} {
				isBind(t, a.secret, x, "K"+a.secret+x, api.OK)
				isRevoke(t, a.secret, x, "V"+a.secret+x, api.OK)
				isBind(t, x, a.secret, "K"+x+a.secret, api.OK)
				isRevoke(t, x, a.secret, "V"+x+a.secret, api.OK)
			}
		}
	}
}

func TestP16_5WrongTerms(t *testing.T) {
	for _, x := range wrong() {
		for _, y := range append(wrong(), "n1;", "Pn2;", nest(64), sized(api.MaxTerm)) {
			isBind(t, x, y, "", api.ErrTerm)
			isBind(t, y, x, "", api.ErrTerm)
			isRevoke(t, x, y, "", api.ErrTerm)
			isRevoke(t, y, x, "", api.ErrTerm)
		}
	}
}

// TestP16_5NoRoom: the deepest and longest that are put together, and the first that are not.
func TestP16_5NoRoom(t *testing.T) {
	for _, x := range []api.Term{nest(63), sized(16380)} {
		isBind(t, x, "n1;", "K"+x+"n1;", api.OK)
		isBind(t, "n1;", x, "Kn1;"+x, api.OK)
		isRevoke(t, x, "n1;", "V"+x+"n1;", api.OK)
		isRevoke(t, "n1;", x, "Vn1;"+x, api.OK)
	}
	isBind(t, nest(63), nest(63), "K"+nest(63)+nest(63), api.OK)
	for _, x := range []api.Term{nest(64), sized(16381), sized(16384)} {
		isBind(t, x, "n1;", "", api.ErrLimit)
		isBind(t, "n1;", x, "", api.ErrLimit)
		isBind(t, x, x, "", api.ErrLimit)
		isRevoke(t, x, "n1;", "", api.ErrLimit)
		isRevoke(t, "n1;", x, "", api.ErrLimit)
		isRevoke(t, x, x, "", api.ErrLimit)
	}
}
