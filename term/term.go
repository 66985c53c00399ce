// Package term is layer 1: see shared/doc/01-term.md.
package term

import (
	"strconv"
	"strings"

	"sluiceway/api"
)

// Right: P1.1.
func Right(t api.Term) bool { return Deep(t) > 0 }

// Open: P1.1.
func Open(t api.Term) (api.Parts, bool) {
	p, ok := parts(t)
	if !ok {
		return api.Parts{}, false
	}
	p.Text = strings.Clone(p.Text)
	for i, k := range p.Kids {
		p.Kids[i] = fresh(k)
	}
	return p, true
}

// Size: P1.1.
func Size(t api.Term) int {
	if !Right(t) {
		return 0
	}
	return len(t)
}

// Deep: P1.1.
func Deep(t api.Term) int {
	r := reader{text: string(t)}
	return r.whole()
}

// Name: P1.2.
func Name(n int64) (api.Term, api.Errno) {
	if n < 0 {
		return "", api.ErrArg
	}
	return build(api.OpName, strconv.FormatInt(n, 10)+";")
}

// Text: P1.2.
func Text(s string) (api.Term, api.Errno) {
	if len(s) > api.MaxText {
		return "", api.ErrLimit
	}
	return build(api.OpText, strconv.Itoa(len(s))+":"+s)
}

// Tuple: P1.2.
func Tuple(l ...api.Term) (api.Term, api.Errno) {
	if len(l) > api.MaxTuple {
		return "", api.ErrLimit
	}
	return build(api.OpTuple, strconv.Itoa(len(l))+":", l...)
}

// Hash: P1.3.
func Hash(x api.Term) (api.Term, api.Errno) { return build(api.OpHash, "", x) }

// Child: P1.3.
func Child(k, label api.Term) (api.Term, api.Errno) { return build(api.OpChild, "", k, label) }

// Join: P1.3.
func Join(a, b api.Term) (api.Term, api.Errno) { return build(api.OpJoin, "", a, b) }

// Bind: P1.3.
func Bind(a, p api.Term) (api.Term, api.Errno) { return build(api.OpBind, "", a, p) }

// Pub: P1.4.
func Pub(k api.Term) (api.Term, api.Errno) {
	if !Right(k) {
		return "", api.ErrTerm
	}
	p := publicKey(k)
	if !Right(p) {
		return "", api.ErrLimit
	}
	return p, api.OK
}

// Joint: P1.4.
func Joint(pa, pb api.Term) (api.Term, api.Errno) {
	if !isKey(pa) || !isKey(pb) {
		return "", api.ErrTerm
	}
	return build(api.OpJoint, "", pa, pb)
}

// Bound: P1.4.
func Bound(pa, p api.Term) (api.Term, api.Errno) {
	if !isKey(pa) {
		return "", api.ErrTerm
	}
	return build(api.OpBound, "", pa, p)
}

// Agree: P1.4.
func Agree(k, p api.Term) (api.Term, api.Errno) {
	if !Right(p) || p[0] != api.OpPub {
		return "", api.ErrTerm
	}
	a, b := k, p[1:]
	if a > b {
		a, b = b, a
	}
	return build(api.OpAgree, "", a, b)
}

// Sign: P1.5.
func Sign(k, m api.Term) (api.Term, api.Errno) { return build(api.OpSign, "", k, m) }

// Verify: P1.5.
func Verify(p, m, s api.Term) bool {
	sig, ok := parts(s)
	return ok && sig.Op == api.OpSign && sig.Kids[1] == m && publicKey(sig.Kids[0]) == p
}

// Box: P1.5.
func Box(k, m api.Term) (api.Term, api.Errno) { return build(api.OpBox, "", k, m) }

// Unbox: P1.5.
func Unbox(k, c api.Term) (api.Term, bool) {
	box, ok := parts(c)
	if !ok || box.Op != api.OpBox || box.Kids[0] != k {
		return "", false
	}
	return fresh(box.Kids[1]), true
}

// build puts an op, what stands ahead of the parts, and the parts together. Which parts a form takes besides right terms, and in which order, is for the caller to see to.
func build(op byte, head string, kids ...api.Term) (api.Term, api.Errno) {
	deep, size := 1, 1+len(head)
	for _, k := range kids {
		d := Deep(k)
		if d == 0 {
			return "", api.ErrTerm
		}
		if deep <= d {
			deep = d + 1
		}
		size += len(k)
	}
	if deep > api.MaxDeep || size > api.MaxTerm {
		return "", api.ErrLimit
	}
	out := make([]byte, 0, size)
	out = append(out, op)
	out = append(out, head...)
	for _, k := range kids {
		out = append(out, k...)
	}
	return api.Term(out), api.OK
}

// parts is Open whose texts still share t's memory.
func parts(t api.Term) (api.Parts, bool) {
	r := reader{text: string(t), keeps: true}
	if r.whole() == 0 {
		return api.Parts{}, false
	}
	r.outer.Op = t[0]
	return r.outer, true
}

// publicKey is that of a right term; it may be too long or too deep to be a right one itself.
func publicKey(k api.Term) api.Term {
	r := reader{text: string(k)}
	return api.Term(r.public(nil))
}

// isKey looks at the op alone: whether k is a right term is told elsewhere.
func isKey(k api.Term) bool { return len(k) > 0 && opensKey(k[0]) }

func fresh(t api.Term) api.Term { return api.Term(strings.Clone(string(t))) }
