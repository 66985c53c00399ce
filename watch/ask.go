package watch

import (
	"slices"

	"sluiceway/api"
	"sluiceway/fresh"
)

// Kinds of notices.
const (
	kindStands uint8 = 1 + iota
	kindSpent
	kindDeep
	kindStandsBack
	kindSpentBack
)

// An ask is for a transaction, or for a spend.
type ask interface {
	// wants tells whether that transaction is what is asked for.
	wants(x named) bool
	// isLike tells whether another ask is for the same.
	isLike(other ask) bool
	// known is what was told of it.
	known() *told
}

// told is what was told of an ask: the transaction that is there, and its block. Where at is 0, none is: no block that a watcher is told has that number.
type told struct {
	sought bool // through all blocks that there were at one Block
	by     api.Signed
	at     int
}

// A txAsk is for a transaction that stands so deep.
type txAsk struct {
	told
	id     string
	deep   int
	isDeep bool // was told to be
}

// A spendAsk is for what spends a Point.
type spendAsk struct {
	told
	point api.Point
}

func (t *told) known() *told { return t }

func (t *told) isThere() bool { return t.at > 0 }

// forget leaves it sought: what was taken back stands in no block ahead either.
func (t *told) forget() { *t = told{sought: true} }

func (t *told) notice(kind uint8, p api.Point) api.Notice {
	return api.Notice{Kind: kind, Point: fresh.Point(p), By: fresh.Signed(t.by), At: t.at}
}

func (a *txAsk) wants(x named) bool { return x.id != "" && x.id == a.id }

func (a *txAsk) isLike(other ask) bool {
	b, ok := other.(*txAsk)
	return ok && a.id == b.id && a.deep == b.deep
}

func (a *txAsk) point() api.Point { return api.Point{Tx: a.id} }

// fits tells whether a transaction is there, and deep enough at a height.
func (a *txAsk) fits(height int) bool { return a.isThere() && a.at <= height-a.deep+1 }

func (a *spendAsk) wants(x named) bool {
	return slices.ContainsFunc(x.Tx.Ins, func(in api.In) bool { return in.Point == a.point })
}

func (a *spendAsk) isLike(other ask) bool {
	b, ok := other.(*spendAsk)
	return ok && a.point == b.point
}
