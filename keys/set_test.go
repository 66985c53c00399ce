package keys

import (
	"slices"
	"testing"

	"sluiceway/api"
)

// plain is a call of Set with keys that can be told apart, in all fields.
func plain() setCall {
	return setCall{
		own:   api.Keys{Fund: "Pn11;", Rev: "Pn12;", Pay: "Pn13;", Later: "Pn14;", Htlc: "Pn15;"},
		other: api.Keys{Fund: "Pn21;", Rev: "Pn22;", Pay: "Pn23;", Later: "Pn24;", Htlc: "Pn25;"},
		point: "Pn9;",
	}
}

var plainSet = api.KeySet{Rev: "WPn22;Pn9;", Later: "LPn14;Pn9;", Mine: "LPn15;Pn9;", Theirs: "LPn25;Pn9;", Pay: "Pn23;"}

func TestP16_4Set(t *testing.T) {
	plain().is(t, plainSet, api.OK)
	c := plain()
	c.own, c.other = c.other, c.own
	c.is(t, api.KeySet{Rev: "WPn12;Pn9;", Later: "LPn24;Pn9;", Mine: "LPn25;Pn9;", Theirs: "LPn15;Pn9;", Pay: "Pn13;"}, api.OK)
	c.other = c.own
	c.is(t, api.KeySet{Rev: "WPn22;Pn9;", Later: "LPn24;Pn9;", Mine: "LPn25;Pn9;", Theirs: "LPn25;Pn9;", Pay: "Pn23;"}, api.OK)
}

// looked are the terms that Set looks at, by the order in which it makes something of them; and the point.
func looked(c *setCall) [6]*api.Term {
	return [6]*api.Term{&c.other.Rev, &c.own.Later, &c.own.Htlc, &c.other.Htlc, &c.other.Pay, &c.point}
}

// TestP16_4PublicKeys: all forms of public keys, at each place.
func TestP16_4PublicKeys(t *testing.T) {
	for _, p := range pairs() {
		k := p.public
		for i, want := range [6]api.KeySet{
			{Rev: "W" + k + "Pn9;", Later: "LPn14;Pn9;", Mine: "LPn15;Pn9;", Theirs: "LPn25;Pn9;", Pay: "Pn23;"},
			{Rev: "WPn22;Pn9;", Later: "L" + k + "Pn9;", Mine: "LPn15;Pn9;", Theirs: "LPn25;Pn9;", Pay: "Pn23;"},
			{Rev: "WPn22;Pn9;", Later: "LPn14;Pn9;", Mine: "L" + k + "Pn9;", Theirs: "LPn25;Pn9;", Pay: "Pn23;"},
			{Rev: "WPn22;Pn9;", Later: "LPn14;Pn9;", Mine: "LPn15;Pn9;", Theirs: "L" + k + "Pn9;", Pay: "Pn23;"},
			{Rev: "WPn22;Pn9;", Later: "LPn14;Pn9;", Mine: "LPn15;Pn9;", Theirs: "LPn25;Pn9;", Pay: k},
			{Rev: "WPn22;" + k, Later: "LPn14;" + k, Mine: "LPn15;" + k, Theirs: "LPn25;" + k, Pay: "Pn23;"},
		} {
			c := plain()
			*looked(&c)[i] = k
			c.is(t, want, api.OK)
		}
	}
}

// TestP16_4NoKeys: each of the six in turn no right term, or no public key; of all other errors, too.
func TestP16_4NoKeys(t *testing.T) {
	for _, x := range slices.Concat(wrong(), unpublic()) {
		for i := range 6 {
			c := plain()
			*looked(&c)[i] = x
			c.is(t, api.KeySet{}, api.ErrTerm)
		}
	}
	setCall{}.is(t, api.KeySet{}, api.ErrTerm)
}

// TestP16_4NotLooked: what stands in the other fields is not looked at.
func TestP16_4NotLooked(t *testing.T) {
	for _, x := range slices.Concat(wrong(), unpublic(), []api.Term{"Pn1;"}) {
		c := plain()
		c.own.Fund, c.own.Rev, c.own.Pay, c.other.Fund, c.other.Later = x, x, x, x, x
		c.is(t, plainSet, api.OK)
	}
}

// TestP16_4NoRoom: each of those that something is made of in turn with room for it, and without. The plain point has four bytes.
func TestP16_4NoRoom(t *testing.T) {
	for i := range 4 {
		for _, k := range []api.Term{"P" + nest(62), "P" + sized(16384-6), "LPn1;" + nest(62)} {
			c, want := plain(), plainSet
			*looked(&c)[i] = k
			*[4]*api.Term{&want.Rev, &want.Later, &want.Mine, &want.Theirs}[i] = []api.Term{"W", "L", "L", "L"}[i] + k + "Pn9;"
			c.is(t, want, api.OK)
		}
		for _, k := range []api.Term{"P" + nest(63), "P" + sized(16384-5), "P" + sized(16383), "LPn1;" + nest(63)} {
			c := plain()
			*looked(&c)[i] = k
			c.is(t, api.KeySet{}, api.ErrLimit)
		}
	}
}

// TestP16_4NoRoomForPoint: points with room beside keys of five bytes, and without; and with room beside one of four alone.
func TestP16_4NoRoomForPoint(t *testing.T) {
	for _, k := range []api.Term{"P" + nest(62), "P" + sized(16384-7)} {
		c := plain()
		c.point = k
		c.is(t, api.KeySet{Rev: "WPn22;" + k, Later: "LPn14;" + k, Mine: "LPn15;" + k, Theirs: "LPn25;" + k, Pay: "Pn23;"}, api.OK)
	}
	for _, k := range []api.Term{"P" + nest(63), "P" + sized(16384-6), "P" + sized(16383)} {
		c := plain()
		c.point = k
		c.is(t, api.KeySet{}, api.ErrLimit)
	}
	for i := range 4 {
		c := plain()
		for _, x := range looked(&c) {
			*x = "Pn1;"
		}
		c.point = "P" + sized(16384-6)
		c.is(t, api.KeySet{Rev: "WPn1;" + c.point, Later: "LPn1;" + c.point, Mine: "LPn1;" + c.point, Theirs: "LPn1;" + c.point, Pay: "Pn1;"}, api.OK)
		*looked(&c)[i] = "Pn10;"
		c.is(t, api.KeySet{}, api.ErrLimit)
	}
}

// TestP16_4PayOfAnySize: nothing is made of Pay, so the deepest and longest public keys may be.
func TestP16_4PayOfAnySize(t *testing.T) {
	for _, k := range []api.Term{"P" + nest(63), "P" + sized(16383), "LPn1;" + nest(63), "WPn1;P" + nest(62)} {
		c, want := plain(), plainSet
		c.other.Pay, want.Pay = k, k
		c.is(t, want, api.OK)
	}
}

// TestP16_4First: all choices of what is refused, and by which error: the first one is told.
func TestP16_4First(t *testing.T) {
	for n := range 3 * 3 * 3 * 3 * 3 {
		c, want, first := plain(), plainSet, api.OK
		for i, rest := 0, n; i < 5; i, rest = i+1, rest/3 {
			e := api.OK
			switch {
			case rest%3 == 1:
				*looked(&c)[i], e = []api.Term{"n1;", "n", nest(64), "PVn1;n2;", ""}[(i+n)%5], api.ErrTerm
			case rest%3 == 2 && i < 4:
				*looked(&c)[i], e = "P"+nest(63), api.ErrLimit
			}
			if first == api.OK {
				first = e
			}
		}
		if first != api.OK {
			want = api.KeySet{}
		}
		c.is(t, want, first)
		c.point = "n9;" // no public key, so that already of Rev there is no other error
		c.is(t, api.KeySet{}, api.ErrTerm)
	}
}
