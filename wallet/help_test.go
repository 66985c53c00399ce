package wallet

import (
	"fmt"
	"strconv"
	"strings"
	"testing"

	"sluiceway/api"
	"sluiceway/lock"
	"sluiceway/tx"
)

// is asks for one answer.
func is[T comparable](t *testing.T, what string, have, want T) {
	t.Helper()
	if have != want {
		t.Fatalf("%s: %.2000v, want %.2000v", what, have, want)
	}
}

// ownSecret is the secret of an own lock, written by hand.
func ownSecret(root api.Term, n int) api.Term {
	return "D" + root + "T2:t4:coin" + word(strconv.Itoa(n))
}

func ownKey(root api.Term, n int) api.Term { return "P" + ownSecret(root, n) }

func ownLock(root api.Term, n int) api.Lock { return api.Lock{Kind: api.LSig, Term: ownKey(root, n)} }

// mine is the own lock of n1;'s number.
func mine(n int) api.Lock { return ownLock("n1;", n) }

// theirs is nobody's lock in these tests.
var theirs = api.Lock{Kind: api.LOlder, N: 1}

// word is a text, written by hand.
func word(s string) api.Term { return api.Term("t" + strconv.Itoa(len(s)) + ":" + s) }

func text(n int) api.Term { return word(strings.Repeat("x", n)) }

// nest is a term that is n deep.
func nest(n int) api.Term { return api.Term(strings.Repeat("H", n-1) + "n1;") }

// sized is a term of n bytes, for n from 12400 to 16400.
func sized(n int) api.Term {
	full := text(api.MaxText)
	rest := n - len("T4:") - 3*len(full)
	for k := rest; k >= 0; k-- {
		if last := text(k); len(last) == rest {
			return "T4:" + full + full + full + last
		}
	}
	return ""
}

// The own lock of 0 of a root of rootRoom bytes has MaxTerm; that of 10 has one byte more than that of 9, that of 100 one more again.
const rootRoom = api.MaxTerm - len("PDT2:t4:coint1:0")

// wrongTerms are no right terms.
func wrongTerms() []api.Term {
	return []api.Term{"", "n", "n7", "n07;", "n7;n7;", "n9223372036854775808;", " n7;", "t3:ab", "T1:", "D", "Dn7;", "P", "WPn1;", "q", "\xff", "\x00", "PVn1;n2;", "Xn9;n10;", nest(65), sized(api.MaxTerm + 1), text(api.MaxText + 1)}
}

// wrongLocks are no right locks.
func wrongLocks() []api.Lock {
	return []api.Lock{
		{}, {Kind: 77}, {Kind: api.LSig}, lock.Sig("n1;"), lock.Sig("Pn1"), lock.Pre("n1;"), lock.After(-1), lock.Older(1 << 30), lock.All(), lock.Any(),
		lock.All(lock.All()), {Kind: api.LSig, Term: "Pn1;", N: 1}, loop(), lock.Sig("P" + sized(api.MaxTerm)), lock.Any(mine(0), lock.Sig("n1;")),
	}
}

// loop is a lock that stands within itself.
func loop() api.Lock {
	kids := make([]api.Lock, 1)
	kids[0] = api.Lock{Kind: api.LAny, Kids: kids}
	return kids[0]
}

// foreign is a point of some transaction that no wallet heard of.
func foreign(n int) api.Point { return api.Point{Tx: strings.Repeat("f", 64), N: n} }

func spending(points ...api.Point) []api.In {
	var l []api.In
	for _, p := range points {
		l = append(l, api.In{Point: p})
	}
	return l
}

// wrongTxs are no right transactions; they'd spend that point.
func wrongTxs(p api.Point) []api.Tx {
	good := api.Tx{Ins: spending(p), Outs: []api.Out{{Value: 5, Lock: mine(0)}}}
	change := func(f func(t *api.Tx)) api.Tx {
		t := api.Tx{Ins: append([]api.In(nil), good.Ins...), Outs: append([]api.Out(nil), good.Outs...)}
		f(&t)
		return t
	}
	l := []api.Tx{
		{},
		change(func(t *api.Tx) { t.Outs = nil }),
		change(func(t *api.Tx) { t.Outs[0].Value = 0 }),
		change(func(t *api.Tx) { t.Outs[0].Value = -5 }),
		change(func(t *api.Tx) { t.Outs[0].Value = api.MaxCoin + 1 }),
		change(func(t *api.Tx) { t.Outs = append(t.Outs, api.Out{Value: api.MaxCoin, Lock: mine(0)}) }),
		change(func(t *api.Tx) { t.Outs = manyOuts(api.MaxIO + 1) }),
		change(func(t *api.Tx) { t.Ins = append(t.Ins, t.Ins[0]) }),
		change(func(t *api.Tx) { t.Ins = append(t.Ins, api.In{Point: api.Point{Tx: "ab"}}) }),
		change(func(t *api.Tx) { t.Ins = append(t.Ins, api.In{Point: foreign(-1)}) }),
		change(func(t *api.Tx) { t.Ins[0].Age = -1 }),
		change(func(t *api.Tx) { t.Ins[0].Age = 1 << 30 }),
		change(func(t *api.Tx) { t.After = -1 }),
		change(func(t *api.Tx) { t.Tag = -1 }),
		change(func(t *api.Tx) { t.Tag = 1<<62 + 1 }),
	}
	for _, x := range wrongLocks() {
		l = append(l, change(func(t *api.Tx) { t.Outs = append(t.Outs, api.Out{Value: 5, Lock: x}) }))
	}
	return l
}

func manyOuts(n int) []api.Out {
	l := make([]api.Out, n)
	for i := range l {
		l[i] = api.Out{Value: 1, Lock: mine(0)}
	}
	return l
}

func idOf(t *testing.T, x api.Tx) string {
	t.Helper()
	id, e := tx.ID(x)
	is(t, "ID", e, api.OK)
	return id
}

// point is an Out of a transaction.
func point(t *testing.T, x api.Tx, n int) api.Point {
	t.Helper()
	return api.Point{Tx: idOf(t, x), N: n}
}

// coin is an Out of a transaction, since that block.
func coin(t *testing.T, x api.Tx, n, at int) api.Coin {
	t.Helper()
	return api.Coin{Point: point(t, x, n), Out: x.Outs[n], At: at}
}

// opened is a wallet of n1; of which so many addresses were given out.
func opened(t *testing.T, addresses int) *Wallet {
	t.Helper()
	return openedOf(t, "n1;", addresses)
}

func openedOf(t *testing.T, root api.Term, addresses int) *Wallet {
	t.Helper()
	w, e := New(root)
	is(t, "New", e, api.OK)
	for n := range addresses {
		gives(t, w, ownLock(root, n))
	}
	return w
}

// made is a wallet of n1; with coins of these values at the addresses 0, 1 and so on, each of a transaction and in a block of that number.
func made(t *testing.T, values ...int64) (*Wallet, []api.Tx) {
	t.Helper()
	return madeOf(t, "n1;", values...)
}

func madeOf(t *testing.T, root api.Term, values ...int64) (*Wallet, []api.Tx) {
	t.Helper()
	w := openedOf(t, root, len(values))
	var l []api.Tx
	for i, v := range values {
		l = append(l, api.Tx{Outs: []api.Out{{Value: v, Lock: ownLock(root, i)}}, Tag: int64(i)})
		takes(t, w, l[i], i)
	}
	return w, l
}

// all tells everything of a wallet: its addresses, its coins with what is set aside, what was taken. (fmt tells maps in the order of their keys.)
func all(w *Wallet) string { return fmt.Sprintf("%+v", *w) }

// gives asks for the next address.
func gives(t *testing.T, w *Wallet, want api.Lock) {
	t.Helper()
	l, e := w.Address()
	is(t, "Address", e, api.OK)
	is(t, "Address", fmt.Sprintf("%+v", l), fmt.Sprintf("%+v", want))
}

// refusesAddress asks that a wallet's next address is refused, and that nothing changes.
func refusesAddress(t *testing.T, w *Wallet, want api.Errno) {
	t.Helper()
	was := all(w)
	l, e := w.Address()
	is(t, "Address", e, want)
	is(t, "Address", fmt.Sprintf("%+v", l), fmt.Sprintf("%+v", api.Lock{}))
	is(t, "the wallet behind it", all(w), was)
}

func takes(t *testing.T, w *Wallet, x api.Tx, at int) {
	t.Helper()
	is(t, "Take", w.Take(x, at), api.OK)
}

func takesBack(t *testing.T, w *Wallet, x api.Tx) {
	t.Helper()
	is(t, "Back", w.Back(x), api.OK)
}

func frees(t *testing.T, w *Wallet, x api.Tx) {
	t.Helper()
	is(t, "Free", w.Free(x), api.OK)
}

// refuses asks that a call answers that error, and that nothing changes.
func refuses(t *testing.T, w *Wallet, what string, call func() api.Errno, want api.Errno) {
	t.Helper()
	was := all(w)
	is(t, what, call(), want)
	is(t, "the wallet behind "+what, all(w), was)
}

func refusesTake(t *testing.T, w *Wallet, x api.Tx) {
	t.Helper()
	refuses(t, w, "Take", func() api.Errno { return w.Take(x, 7) }, api.ErrTx)
}

func refusesBack(t *testing.T, w *Wallet, x api.Tx) {
	t.Helper()
	refuses(t, w, "Back", func() api.Errno { return w.Back(x) }, api.ErrTx)
}

func refusesFree(t *testing.T, w *Wallet, x api.Tx) {
	t.Helper()
	refuses(t, w, "Free", func() api.Errno { return w.Free(x) }, api.ErrTx)
}

func refusesFund(t *testing.T, w *Wallet, l api.Lock, value, rate int64, want api.Errno) {
	t.Helper()
	what := fmt.Sprintf("Fund of %d at %d", value, rate)
	refuses(t, w, what, func() api.Errno {
		s, e := w.Fund(l, value, rate)
		is(t, what, tell(s), tell(api.Signed{}))
		return e
	}, want)
}

// tell is a thing as a text: nil and empty lists are told alike.
func tell(x any) string { return fmt.Sprintf("%+v", x) }

// has asks for just these coins, in this order.
func has(t *testing.T, w *Wallet, want ...api.Coin) {
	t.Helper()
	is(t, "Coins", tell(w.Coins()), tell(want))
	sum := int64(0)
	for _, c := range want {
		sum += c.Out.Value
	}
	have, _ := w.Balance()
	is(t, "Balance", have, sum)
}

func balances(t *testing.T, w *Wallet, all, free int64) {
	t.Helper()
	haveAll, haveFree := w.Balance()
	is(t, "Balance", haveAll, all)
	is(t, "Balance, what is not set aside", haveFree, free)
}

// signed has, for each In, one signature by a secret, written by hand.
func signed(t *testing.T, x api.Tx, secrets ...api.Term) api.Signed {
	t.Helper()
	s := api.Signed{Tx: x}
	for _, k := range secrets {
		s.Wits = append(s.Wits, api.Witness{Sigs: []api.Term{"S" + k + word(idOf(t, x))}})
	}
	return s
}

// funds asks Fund for an answer, and hands it on.
func funds(t *testing.T, w *Wallet, l api.Lock, value, rate int64, want api.Signed) api.Signed {
	t.Helper()
	s, e := w.Fund(l, value, rate)
	is(t, fmt.Sprintf("Fund of %d at %d", value, rate), e, api.OK)
	is(t, fmt.Sprintf("Fund of %d at %d", value, rate), tell(s), tell(want))
	return s
}

// funded asks Fund for any answer without an error.
func funded(t *testing.T, w *Wallet, value, rate int64) api.Signed {
	t.Helper()
	s, e := w.Fund(theirs, value, rate)
	is(t, fmt.Sprintf("Fund of %d at %d", value, rate), e, api.OK)
	return s
}

func mustID(x api.Tx) string {
	id, _ := tx.ID(x)
	return id
}
