package chain

import (
	"fmt"
	"slices"
	"strings"
	"testing"

	"sluiceway/api"
	"sluiceway/lock"
	"sluiceway/tx"
)

// is asks for one answer.
func is[T comparable](t *testing.T, what string, have, want T) {
	t.Helper()
	if have != want {
		t.Fatalf("%s: %v, want %v", what, have, want)
	}
}

// out is so much for the public key of a name.
func out(value int64, name int) api.Out { return api.Out{Value: value, Lock: keyLock(name)} }

func keyLock(name int) api.Lock { return lock.Sig(api.Term(fmt.Sprintf("Pn%d;", name))) }

func secret(name int) api.Term { return api.Term(fmt.Sprintf("n%d;", name)) }

func idOf(t *testing.T, x api.Tx) string {
	t.Helper()
	id, e := tx.ID(x)
	is(t, "ID", e, api.OK)
	return id
}

// point is an Out of a transaction.
func point(t *testing.T, s api.Signed, n int) api.Point {
	t.Helper()
	return api.Point{Tx: idOf(t, s.Tx), N: n}
}

// started is a ledger, and the Points of its first Outs.
func started(t *testing.T, first ...api.Out) (*Chain, []api.Point) {
	t.Helper()
	c, e := New(first)
	is(t, "New", e, api.OK)
	return c, pointsOf(t, api.Tx{Outs: first})
}

func pointsOf(t *testing.T, x api.Tx) []api.Point {
	t.Helper()
	points := make([]api.Point, len(x.Outs))
	for n := range points {
		points[n] = point(t, api.Signed{Tx: x}, n)
	}
	return points
}

func ins(points ...api.Point) []api.In {
	l := make([]api.In, len(points))
	for i, p := range points {
		l[i].Point = p
	}
	return l
}

// signed has, for each In, a signature by each of those names.
func signed(t *testing.T, x api.Tx, names ...int) api.Signed {
	t.Helper()
	s := api.Signed{Tx: x, Wits: make([]api.Witness, len(x.Ins))}
	for _, name := range names {
		sig, e := tx.Sign(x, secret(name))
		is(t, "Sign", e, api.OK)
		for i := range s.Wits {
			s.Wits[i].Sigs = append(s.Wits[i].Sigs, sig)
		}
	}
	return s
}

// spend is a transaction of one In, which that name signs.
func spend(t *testing.T, p api.Point, name int, outs ...api.Out) api.Signed {
	t.Helper()
	return signed(t, api.Tx{Ins: ins(p), Outs: outs}, name)
}

func block(txs ...api.Signed) api.Block { return api.Block{Txs: txs} }

// mine asks that a block is taken.
func mine(t *testing.T, c *Chain, txs ...api.Signed) {
	t.Helper()
	is(t, "Mine", c.Mine(block(txs...)), api.OK)
}

func back(t *testing.T, c *Chain, n int) {
	t.Helper()
	is(t, "Back", c.Back(n), api.OK)
}

// refused asks that a transaction may not stand in the next block: Check and Mine answer that, and nothing changes.
func refused(t *testing.T, c *Chain, s api.Signed, want api.Errno) {
	t.Helper()
	was := tell(c)
	is(t, "Check", c.Check(s, c.Height()+1), want)
	is(t, "Mine", c.Mine(block(s)), want)
	is(t, "the ledger", tell(c), was)
}

// taken asks that it may stand there, and leaves the ledger as it was.
func taken(t *testing.T, c *Chain, s api.Signed) {
	t.Helper()
	was := tell(c)
	is(t, "Check", c.Check(s, c.Height()+1), api.OK)
	is(t, "the ledger", tell(c), was)
	mine(t, c, s)
	back(t, c, 1)
	is(t, "the ledger", tell(c), was)
}

// tell is all that a ledger answers, as a text: nil and empty lists are told alike.
func tell(c *Chain) string {
	var b strings.Builder
	fmt.Fprintf(&b, "height %d\n", c.Height())
	for at := range c.Height() + 1 {
		x, ok := c.Block(at)
		fmt.Fprintf(&b, "block %d %+v %t\n", at, x, ok)
		for _, s := range x.Txs {
			id, _ := tx.ID(s.Tx)
			told, place, ok := c.Tx(id)
			fmt.Fprintf(&b, "tx %s %+v %d %t\n", id, told, place, ok)
			for n := range s.Tx.Outs {
				coin, ok := c.Coin(api.Point{Tx: id, N: n})
				fmt.Fprintf(&b, "coin %d %+v %t\n", n, coin, ok)
			}
		}
	}
	fmt.Fprintf(&b, "coins %+v\n", c.Coins())
	return b.String()
}

// sumOf is what all coins of a ledger are worth.
func sumOf(c *Chain) int64 {
	sum := int64(0)
	for _, coin := range c.Coins() {
		sum += coin.Out.Value
	}
	return sum
}

// loop is a lock that stands within itself.
func loop() api.Lock {
	kids := make([]api.Lock, 1)
	kids[0] = api.Lock{Kind: api.LAny, Kids: kids}
	return kids[0]
}

// deepLock has so many parts, one within the other.
func deepLock(parts int) api.Lock {
	l := lock.After(0)
	for range parts - 1 {
		l = api.Lock{Kind: api.LAny, Kids: []api.Lock{l}}
	}
	return l
}

func sameLock(a, b api.Lock) bool {
	return a.Kind == b.Kind && a.Term == b.Term && a.N == b.N && slices.EqualFunc(a.Kids, b.Kids, sameLock)
}

func sameOut(a, b api.Out) bool { return a.Value == b.Value && sameLock(a.Lock, b.Lock) }

func sameWit(a, b api.Witness) bool {
	return slices.Equal(a.Sigs, b.Sigs) && slices.Equal(a.Pres, b.Pres)
}

func sameSigned(a, b api.Signed) bool {
	return slices.Equal(a.Tx.Ins, b.Tx.Ins) && slices.EqualFunc(a.Tx.Outs, b.Tx.Outs, sameOut) && a.Tx.After == b.Tx.After && a.Tx.Tag == b.Tx.Tag && slices.EqualFunc(a.Wits, b.Wits, sameWit)
}

func sameCoin(a, b api.Coin) bool {
	return a.Point == b.Point && a.At == b.At && sameOut(a.Out, b.Out)
}

// hasTx asks for a transaction that stands.
func hasTx(t *testing.T, c *Chain, s api.Signed, place int) {
	t.Helper()
	have, at, ok := c.Tx(idOf(t, s.Tx))
	if !ok || at != place || !sameSigned(have, s) {
		t.Fatalf("Tx: %+v, %d, %t; want %+v, %d", have, at, ok, s, place)
	}
}

// hasNot asks that a transaction does not stand, and has no coins.
func hasNot(t *testing.T, c *Chain, s api.Signed) {
	t.Helper()
	have, at, ok := c.Tx(idOf(t, s.Tx))
	if ok || at != 0 || !sameSigned(have, api.Signed{}) {
		t.Fatalf("Tx: %+v, %d, %t", have, at, ok)
	}
	for n := range s.Tx.Outs {
		noCoin(t, c, point(t, s, n))
	}
}

func hasCoin(t *testing.T, c *Chain, p api.Point, o api.Out, at int) {
	t.Helper()
	want := api.Coin{Point: p, Out: o, At: at}
	if have, ok := c.Coin(p); !ok || !sameCoin(have, want) {
		t.Fatalf("Coin: %+v, %t; want %+v", have, ok, want)
	}
	if !slices.ContainsFunc(c.Coins(), func(x api.Coin) bool { return sameCoin(x, want) }) {
		t.Fatalf("Coins: %+v, without %+v", c.Coins(), want)
	}
}

func noCoin(t *testing.T, c *Chain, p api.Point) {
	t.Helper()
	if have, ok := c.Coin(p); ok || !sameCoin(have, api.Coin{}) {
		t.Fatalf("Coin of %+v: %+v, %t", p, have, ok)
	}
	if slices.ContainsFunc(c.Coins(), func(x api.Coin) bool { return x.Point == p }) {
		t.Fatalf("Coins: %+v, with one at %+v", c.Coins(), p)
	}
}

func hasBlock(t *testing.T, c *Chain, at int, txs ...api.Signed) {
	t.Helper()
	if have, ok := c.Block(at); !ok || !slices.EqualFunc(have.Txs, txs, sameSigned) {
		t.Fatalf("Block(%d): %+v, %t; want %+v", at, have, ok, txs)
	}
}
