package lock

import (
	"strconv"
	"strings"

	"sluiceway/api"
	"sluiceway/fresh"
	"sluiceway/scan"
)

// letters are those that the kinds from LSig to LAny are written with, in order.
const letters = "spao&|"

// Write: P11.2.
func Write(l api.Lock) (string, api.Errno) {
	if !Right(l) {
		return "", api.ErrLock
	}
	return string(appendLock(nil, l)), api.OK
}

// appendLock puts a right lock, written, behind out.
func appendLock(out []byte, l api.Lock) []byte {
	out = append(out, letters[l.Kind-api.LSig])
	switch l.Kind {
	case api.LSig, api.LPre:
		return append(out, l.Term...)
	case api.LAfter, api.LOlder:
		return append(strconv.AppendInt(out, int64(l.N), 10), ';')
	}
	out = append(strconv.AppendInt(out, int64(len(l.Kids)), 10), ':')
	for _, k := range l.Kids {
		out = appendLock(out, k)
	}
	return out
}

// Read: P11.2. What can't be read leaves a part without a kind, a term, a number or kids, which makes the whole no right lock: only that is asked, at the end.
func Read(s string) (api.Lock, api.Errno) {
	text, parts := scan.Text{Left: s}, 0
	var read func() api.Lock
	read = func() api.Lock {
		parts++
		if parts > api.MaxLock { // so that no text makes it nest deeper
			return api.Lock{}
		}
		l := api.Lock{Kind: kindOf(text.Letter())}
		switch l.Kind {
		case api.LSig, api.LPre:
			l.Term = fresh.Term(api.Term(text.Term()))
		case api.LAfter, api.LOlder:
			l.N = int(text.Number(';', maxN))
		case api.LAll, api.LAny:
			for range text.Number(':', api.MaxKids) {
				l.Kids = append(l.Kids, read())
			}
		}
		return l
	}
	l := read()
	if text.Left != "" || !Right(l) {
		return api.Lock{}, api.ErrLock
	}
	return l, api.OK
}

// kindOf is the kind that is written with that letter; 0, if none is.
func kindOf(letter byte) uint8 {
	at := strings.IndexByte(letters, letter)
	if at < 0 {
		return 0
	}
	return api.LSig + uint8(at)
}
