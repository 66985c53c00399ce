package watch

import (
	"fmt"
	"slices"
	"strings"
	"testing"

	"sluiceway/api"
	"sluiceway/lock"
	"sluiceway/tx"
)

// is asks for one answer.
func is[T comparable](t *testing.T, what string, have, want T) {
	t.Helper()
	if have != want {
		t.Fatalf("%s: %v, want %v", what, have, want)
	}
}

// point is one of those that the tests ask for: the letter is what its Tx is made of.
func point(letter string, n int) api.Point { return api.Point{Tx: strings.Repeat(letter, 64), N: n} }

// signed is a right transaction: its tag tells it from others. Each In has a Wit with a preimage of that name.
func signed(tag int64, name int, points ...api.Point) api.Signed {
	s := api.Signed{Tx: api.Tx{Outs: []api.Out{{Value: 5, Lock: lock.Any(lock.Sig("Pn1;"), lock.Older(2))}}, After: 3, Tag: tag}}
	for i, p := range points {
		s.Tx.Ins = append(s.Tx.Ins, api.In{Point: p, Age: i})
		s.Wits = append(s.Wits, api.Witness{Pres: []api.Term{api.Term(fmt.Sprintf("n%d;", name))}})
	}
	return s
}

// spoilt is the same, but no right transaction.
func spoilt(s api.Signed) api.Signed {
	s.Tx.After = -1
	return s
}

func idOf(t *testing.T, s api.Signed) string {
	t.Helper()
	id, e := tx.ID(s.Tx)
	is(t, "ID", e, api.OK)
	return id
}

func block(txs ...api.Signed) api.Block { return api.Block{Txs: txs} }

// The notices of each kind, as the chapter has them.

func stands(id string, by api.Signed, at int) api.Notice {
	return api.Notice{Kind: 1, Point: api.Point{Tx: id}, By: by, At: at}
}

func spent(p api.Point, by api.Signed, at int) api.Notice {
	return api.Notice{Kind: 2, Point: p, By: by, At: at}
}

func isDeep(id string, at, deep int) api.Notice {
	return api.Notice{Kind: 3, Point: api.Point{Tx: id}, At: at, Deep: deep}
}

func standsBack(id string, by api.Signed, at int) api.Notice {
	return api.Notice{Kind: 4, Point: api.Point{Tx: id}, By: by, At: at}
}

func spentBack(p api.Point, by api.Signed, at int) api.Notice {
	return api.Notice{Kind: 5, Point: p, By: by, At: at}
}

func sameLock(a, b api.Lock) bool {
	return a.Kind == b.Kind && a.Term == b.Term && a.N == b.N && slices.EqualFunc(a.Kids, b.Kids, sameLock)
}

func sameOut(a, b api.Out) bool { return a.Value == b.Value && sameLock(a.Lock, b.Lock) }

func sameWit(a, b api.Witness) bool {
	return slices.Equal(a.Sigs, b.Sigs) && slices.Equal(a.Pres, b.Pres)
}

func sameSigned(a, b api.Signed) bool {
	return slices.Equal(a.Tx.Ins, b.Tx.Ins) && slices.EqualFunc(a.Tx.Outs, b.Tx.Outs, sameOut) && a.Tx.After == b.Tx.After && a.Tx.Tag == b.Tx.Tag && slices.EqualFunc(a.Wits, b.Wits, sameWit)
}

func sameNotice(a, b api.Notice) bool {
	return a.Kind == b.Kind && a.Point == b.Point && sameSigned(a.By, b.By) && a.At == b.At && a.Deep == b.Deep
}

// areNotices asks for just these, in that order.
func areNotices(t *testing.T, what string, have, want []api.Notice) {
	t.Helper()
	if !slices.EqualFunc(have, want, sameNotice) {
		t.Fatalf("%s: %+v, want %+v", what, have, want)
	}
}

func asksTx(t *testing.T, w *Watch, id string, deep int) {
	t.Helper()
	n := w.Asks()
	is(t, "Tx", w.Tx(id, deep), api.OK)
	is(t, "Asks", w.Asks(), n+1)
}

func asksSpend(t *testing.T, w *Watch, p api.Point) {
	t.Helper()
	n := w.Asks()
	is(t, "Spend", w.Spend(p), api.OK)
	is(t, "Asks", w.Asks(), n+1)
}

// hears asks for the notices of a block.
func hears(t *testing.T, w *Watch, b api.Block, want ...api.Notice) {
	t.Helper()
	height, n := w.Height(), w.Asks()
	areNotices(t, "Block", w.Block(b), want)
	is(t, "Height", w.Height(), height+1)
	is(t, "Asks", w.Asks(), n)
}

// loses asks for the notices when so many blocks are taken back.
func loses(t *testing.T, w *Watch, back int, want ...api.Notice) {
	t.Helper()
	height, n := w.Height(), w.Asks()
	have, e := w.Back(back)
	is(t, "Back", e, api.OK)
	areNotices(t, "Back", have, want)
	is(t, "Height", w.Height(), height-back)
	is(t, "Asks", w.Asks(), n)
}

// refuses asks that Back answers that error, and nothing changes that can be asked at once.
func refuses(t *testing.T, w *Watch, back int, want api.Errno) {
	t.Helper()
	height, n := w.Height(), w.Asks()
	have, e := w.Back(back)
	is(t, "Back", e, want)
	areNotices(t, "Back", have, nil)
	is(t, "Height", w.Height(), height)
	is(t, "Asks", w.Asks(), n)
}

// loop is a lock that stands within itself.
func loop() api.Lock {
	kids := make([]api.Lock, 2)
	for i := range kids {
		kids[i] = api.Lock{Kind: api.LAny, Kids: kids}
	}
	return kids[0]
}

// deepLock has so many parts, one within the other.
func deepLock(parts int) api.Lock {
	l := lock.After(0)
	for range parts - 1 {
		l = api.Lock{Kind: api.LAny, Kids: []api.Lock{l}}
	}
	return l
}
