// Package scan goes over texts in which numbers, terms and locks are written one behind the other, and finds where each of them ends. Whether they are right ones, packages term and lock tell.
package scan

import (
	"math"

	"sluiceway/api"
)

// A Text is one that is gone over. Its calls take what they find off the front; where there is no such thing, all of Left stays, but for what Letter took. The pieces that they answer share its memory.
type Text struct{ Left string }

// Letter takes a byte; at the end it answers 0, with which nothing that is written begins.
func (t *Text) Letter() byte {
	if t.Left == "" {
		return 0
	}
	b := t.Left[0]
	t.Left = t.Left[1:]
	return b
}

// Bytes takes n bytes.
func (t *Text) Bytes(n int64) (string, bool) {
	if n < 0 || n > int64(len(t.Left)) {
		return "", false
	}
	piece := t.Left[:n]
	t.Left = t.Left[n:]
	return piece, true
}

// Number takes digits, and the byte end behind them; -1, if they are not those of a number up to most.
func (t *Text) Number(end byte, most int64) int64 {
	n := int64(0)
	for i := range len(t.Left) {
		b := t.Left[i]
		if b == end && i > 0 {
			t.Left = t.Left[i+1:]
			return n
		}
		if b < '0' || b > '9' || i > 0 && n == 0 { // behind a nought at the front no digit may stand
			return -1
		}
		d := int64(b - '0')
		if n > most/10 || d > most-10*n { // asked ahead, as the number itself could run over
			return -1
		}
		n = 10*n + d
	}
	return -1
}

// Term takes what is as long as the right term that the text begins with, if it does; it may answer what is no right term, and answers no text where there can be none. There is one such length at most, as no term is the beginning of another one.
func (t *Text) Term() string {
	near := Text{t.Left[:min(len(t.Left), api.MaxTerm)]}
	piece := near.nested(near.termHead)
	t.Left = t.Left[len(piece):]
	return piece
}

// Lock takes the like of a lock.
func (t *Text) Lock() string { return t.nested(t.lockHead) }

// nested takes a thing with parts within parts: head takes what stands ahead of a thing's parts, and tells how many of them come, or -1. It counts what is still to come, so that no text makes it nest.
func (t *Text) nested(head func() int) string {
	all := t.Left
	for open := 1; open > 0; open-- {
		parts := head()
		if parts < 0 {
			t.Left = all
			return ""
		}
		open += parts
	}
	return all[:len(all)-len(t.Left)]
}

func (t *Text) termHead() int {
	switch t.Letter() {
	case api.OpName:
		return noParts(t.Number(';', math.MaxInt64) >= 0)
	case api.OpText:
		_, ok := t.Bytes(t.Number(':', api.MaxText))
		return noParts(ok)
	case api.OpTuple:
		return int(t.Number(':', api.MaxTuple))
	case api.OpPub, api.OpHash:
		return 1
	case api.OpSign, api.OpBox, api.OpAgree, api.OpChild, api.OpJoin, api.OpJoint, api.OpBind, api.OpBound:
		return 2
	}
	return -1
}

func (t *Text) lockHead() int {
	switch t.Letter() {
	case 's', 'p':
		return noParts(t.Term() != "")
	case 'a', 'o':
		return noParts(t.Number(';', math.MaxInt64) >= 0)
	case '&', '|':
		return int(t.Number(':', api.MaxKids))
	}
	return -1
}

// noParts is what a head answers that has none.
func noParts(ok bool) int {
	if ok {
		return 0
	}
	return -1
}
