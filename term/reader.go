package term

import (
	"math"

	"sluiceway/api"
)

// reader goes over a text, term by term. How deep a term is serves as its answer everywhere: 0 says that there is none.
type reader struct {
	text  string
	at    int       // the place of the next byte
	level int       // terms that are begun and not ended
	keeps bool      // whether the outermost term's parts are wanted: most callers only judge, and need no memory for them
	outer api.Parts // these parts, cut out of text
}

// whole reads a text that is to be one right term and nothing else.
func (r *reader) whole() int {
	if len(r.text) > api.MaxTerm {
		return 0
	}
	deep := r.term()
	if r.at < len(r.text) {
		return 0
	}
	return deep
}

// term reads the term that begins at the next byte. It stops at the level one past MaxDeep, so that no text makes it nest deeper.
func (r *reader) term() int {
	if r.at == len(r.text) || r.level == api.MaxDeep {
		return 0
	}
	read := r.none
	switch r.text[r.at] {
	case api.OpName:
		read = r.name
	case api.OpText:
		read = r.bytes
	case api.OpTuple:
		read = r.tuple
	case api.OpPub:
		read = r.pub
	case api.OpHash:
		read = r.one
	case api.OpSign, api.OpBox, api.OpChild, api.OpJoin, api.OpBind:
		read = r.two
	case api.OpAgree:
		read = r.agree
	case api.OpJoint:
		read = r.joint
	case api.OpBound:
		read = r.bound
	}
	r.at++
	r.level++
	deep := read()
	r.level--
	return deep
}

// none reads what begins with a byte that is no op.
func (r *reader) none() int { return 0 }

func (r *reader) name() int {
	n, ok := r.number(';')
	if !ok {
		return 0
	}
	if r.wanted() {
		r.outer.N = n
	}
	return 1
}

func (r *reader) bytes() int {
	n, ok := r.number(':')
	if !ok || n > api.MaxText || int(n) > len(r.text)-r.at {
		return 0
	}
	from := r.at
	r.at += int(n)
	if r.wanted() {
		r.outer.Text = r.text[from:r.at]
	}
	return 1
}

func (r *reader) tuple() int {
	n, ok := r.number(':')
	if !ok || n > api.MaxTuple {
		return 0
	}
	deep := 1
	for range n {
		d := r.kid()
		if d == 0 {
			return 0
		}
		if deep <= d {
			deep = d + 1
		}
	}
	return deep
}

func (r *reader) pub() int {
	from := r.at
	deep := r.one()
	if deep == 0 || r.text[from] == api.OpJoin || r.text[from] == api.OpBind {
		return 0
	}
	return deep
}

func (r *reader) one() int {
	d := r.kid()
	if d == 0 {
		return 0
	}
	return d + 1
}

func (r *reader) two() int {
	deep, _ := r.pair()
	return deep
}

func (r *reader) agree() int {
	from := r.at
	deep, second := r.pair()
	if deep == 0 || r.text[from:second] > r.text[second:r.at] {
		return 0
	}
	return deep
}

func (r *reader) joint() int {
	from := r.at
	deep, second := r.pair()
	if deep == 0 || !opensKey(r.text[from]) || !opensKey(r.text[second]) {
		return 0
	}
	return deep
}

func (r *reader) bound() int {
	from := r.at
	deep := r.two()
	if deep == 0 || !opensKey(r.text[from]) {
		return 0
	}
	return deep
}

// pair reads two parts, and tells beside how deep their whole is at which place the second one begins.
func (r *reader) pair() (int, int) {
	a := r.kid()
	if a == 0 {
		return 0, 0
	}
	second := r.at
	b := r.kid()
	if b == 0 {
		return 0, 0
	}
	if a < b {
		a = b
	}
	return a + 1, second
}

// kid reads a part of the term that was begun last.
func (r *reader) kid() int {
	from := r.at
	deep := r.term()
	if deep > 0 && r.wanted() {
		r.outer.Kids = append(r.outer.Kids, api.Term(r.text[from:r.at]))
	}
	return deep
}

// number reads digits up to and with the byte end.
func (r *reader) number(end byte) (int64, bool) {
	from, n := r.at, int64(0)
	for r.at < len(r.text) && r.text[r.at] != end {
		d := r.text[r.at] - '0' // a byte below '0' wraps round to one above 9
		if d > 9 || n > (math.MaxInt64-int64(d))/10 {
			return 0, false
		}
		n = 10*n + int64(d)
		r.at++
	}
	digits := r.at - from
	if r.at == len(r.text) || digits == 0 || digits > 1 && r.text[from] == '0' {
		return 0, false
	}
	r.at++
	return n, true
}

// wanted tells whether what is being read is a part of the outermost term that somebody asks for.
func (r *reader) wanted() bool { return r.keeps && r.level == 1 }

// public puts the public key of the term that begins at the next byte behind out. The text is a right term.
func (r *reader) public(out []byte) []byte {
	switch r.text[r.at] {
	case api.OpJoin:
		r.at++
		return r.public(r.public(append(out, api.OpJoint)))
	case api.OpBind:
		r.at++
		return r.pass(r.public(append(out, api.OpBound)))
	}
	return r.pass(append(out, api.OpPub))
}

// pass puts the term that begins at the next byte behind out as it is.
func (r *reader) pass(out []byte) []byte {
	from := r.at
	r.term()
	return append(out, r.text[from:r.at]...)
}

// opensKey tells whether a right term that begins with this byte is a public key.
func opensKey(op byte) bool {
	return op == api.OpPub || op == api.OpJoint || op == api.OpBound
}
