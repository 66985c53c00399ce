package wire

import (
	"strings"

	"sluiceway/api"
	"sluiceway/tlv"
)

// reader goes over bytes, part by part. The method of a part puts what it reads into the message, and answers whether the bytes that are left begin with such a part.
type reader struct {
	left []byte
	told api.Msg
}

// message reads bytes that are to be a message's, whether it may be or not.
func (r *reader) message() bool {
	return r.each(r.kind, r.channel, r.nums, r.terms, r.text, r.more)
}

func (r *reader) each(parts ...func() bool) bool {
	for _, read := range parts {
		if !read() {
			return false
		}
	}
	return true
}

func (r *reader) kind() bool {
	n, ok := r.wide(kindBytes)
	r.told.Kind = uint16(n)
	return ok
}

func (r *reader) channel() bool {
	s, ok := r.bytes()
	r.told.Chan = s
	return ok
}

func (r *reader) nums() bool { return r.list(r.num) }

func (r *reader) num() bool {
	n, ok := r.wide(numBytes)
	r.told.Nums = append(r.told.Nums, int64(n))
	return ok
}

func (r *reader) terms() bool { return r.list(r.term) }

func (r *reader) term() bool {
	s, ok := r.bytes()
	r.told.Terms = append(r.told.Terms, api.Term(s))
	return ok
}

func (r *reader) text() bool {
	s, ok := r.bytes()
	r.told.Text = s
	return ok
}

// more reads up to the end.
func (r *reader) more() bool {
	l, e := tlv.Records(r.left)
	r.told.More = l
	return e == api.OK
}

// list reads how many parts there are, and these. It stops at once where there are more than any message has.
func (r *reader) list(part func() bool) bool {
	n, ok := r.count()
	if !ok || n > maxParts {
		return false
	}
	for range n {
		if !part() {
			return false
		}
	}
	return true
}

// bytes reads a text, or a term. It clones what it tells, as Go lets all texts of the same single byte share their memory.
func (r *reader) bytes() (string, bool) {
	n, ok := r.count()
	if !ok {
		return "", false
	}
	b, ok := r.take(n)
	return strings.Clone(string(b)), ok
}

func (r *reader) count() (uint64, bool) {
	n, size, e := tlv.Get(r.left)
	r.left = r.left[size:]
	return n, e == api.OK
}

// wide reads a number of so many bytes, the highest first.
func (r *reader) wide(size uint64) (uint64, bool) {
	b, ok := r.take(size)
	var n uint64
	for _, x := range b {
		n = n<<8 | uint64(x)
	}
	return n, ok
}

func (r *reader) take(n uint64) ([]byte, bool) {
	if n > uint64(len(r.left)) {
		return nil, false
	}
	taken := r.left[:n]
	r.left = r.left[n:]
	return taken, true
}
