package lock

import (
	"strconv"
	"strings"

	"sluiceway/api"
)

// letters are those that the kinds from LSig to LAny are written with, in order.
const letters = "spao&|"

// Write: P11.2.
func Write(l api.Lock) (string, api.Errno) {
	if !Right(l) {
		return "", api.ErrLock
	}
	return string(appendLock(nil, l)), api.OK
}

// appendLock puts a right lock, written, behind out.
func appendLock(out []byte, l api.Lock) []byte {
	out = append(out, letters[l.Kind-api.LSig])
	switch l.Kind {
	case api.LSig, api.LPre:
		return append(out, l.Term...)
	case api.LAfter, api.LOlder:
		return append(strconv.AppendInt(out, int64(l.N), 10), ';')
	}
	out = append(strconv.AppendInt(out, int64(len(l.Kids)), 10), ':')
	for _, k := range l.Kids {
		out = appendLock(out, k)
	}
	return out
}

// Read: P11.2. What can't be read leaves a part without a kind, a term, a number or kids, which makes the whole no right lock: only that is asked, at the end.
func Read(s string) (api.Lock, api.Errno) {
	r, parts := reader{s}, 0
	var read func() api.Lock
	read = func() api.Lock {
		parts++
		if parts > api.MaxLock { // so that no text makes it nest deeper
			return api.Lock{}
		}
		l := api.Lock{Kind: r.kind()}
		switch l.Kind {
		case api.LSig, api.LPre:
			l.Term = r.term()
		case api.LAfter, api.LOlder:
			l.N = r.number(';', maxN)
		case api.LAll, api.LAny:
			for range r.number(':', api.MaxKids) {
				l.Kids = append(l.Kids, read())
			}
		}
		return l
	}
	l := read()
	if r.left != "" || !Right(l) {
		return api.Lock{}, api.ErrLock
	}
	return l, api.OK
}

// reader takes what it reads off the text that is left.
type reader struct{ left string }

// kind reads a lock's letter; 0, if there is none.
func (r *reader) kind() uint8 {
	at := strings.IndexByte(letters, r.letter())
	if at < 0 {
		return 0
	}
	return api.LSig + uint8(at)
}

// letter reads a byte; 0 at the end: neither a lock nor a term begins with that one.
func (r *reader) letter() byte {
	if r.left == "" {
		return 0
	}
	b := r.left[0]
	r.left = r.left[1:]
	return b
}

// number reads digits up to and with the byte end; -1, if they are not those of a number up to most.
func (r *reader) number(end byte, most int) int {
	n := int64(0)
	for i := range len(r.left) {
		b := r.left[i]
		if b == end && i > 0 {
			r.left = r.left[i+1:]
			return int(n)
		}
		if b < '0' || b > '9' || i > 0 && n == 0 { // behind a nought at the front no digit may stand
			return -1
		}
		n = 10*n + int64(b-'0')
		if n > int64(most) {
			return -1
		}
	}
	return -1
}

// term reads what is as long as the right term that the text begins with, if it does; whether it is one, term.Right tells. There is one such length at most, as no term is the beginning of another one.
func (r *reader) term() api.Term {
	t := reader{r.left[:min(len(r.left), api.MaxTerm)]}
	all := t.left
	for open := 1; open > 0; open-- {
		kids := t.form()
		if kids < 0 {
			return ""
		}
		open += kids
	}
	size := len(all) - len(t.left)
	r.left = r.left[size:]
	return freshTerm(api.Term(all[:size]))
}

// form reads of a term what stands ahead of its parts, and tells how many of them come; -1, if no term begins so.
func (r *reader) form() int {
	switch r.letter() {
	case api.OpName:
		return r.name()
	case api.OpText:
		return r.bytes()
	case api.OpTuple:
		return r.number(':', api.MaxTuple)
	case api.OpPub, api.OpHash:
		return 1
	case api.OpSign, api.OpBox, api.OpAgree, api.OpChild, api.OpJoin, api.OpJoint, api.OpBind, api.OpBound:
		return 2
	}
	return -1
}

func (r *reader) name() int {
	_, behind, ok := strings.Cut(r.left, ";")
	if !ok {
		return -1
	}
	r.left = behind
	return 0
}

func (r *reader) bytes() int {
	n := r.number(':', api.MaxText)
	if n < 0 || n > len(r.left) {
		return -1
	}
	r.left = r.left[n:]
	return 0
}
