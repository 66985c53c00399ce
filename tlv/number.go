package tlv

import "math"

// A form is how a number is written: by itself in one byte, or behind a mark, in 2, 4 or 8 bytes.
type form int

const (
	alone form = iota
	inTwo
	inFour
	inEight
)

// firstMark is the mark of inTwo, and the least number that is not written alone. The marks of the others come behind it.
const firstMark = 253

// formOf is the shortest form that n has room in: each bound that n has reached is one form further.
func formOf(n uint64) form {
	f := alone
	switch {
	case n > math.MaxUint32:
		f++
		fallthrough
	case n > math.MaxUint16:
		f++
		fallthrough
	case n >= firstMark:
		f++
	}
	return f
}

// saidBy is the form that a number's first byte says.
func saidBy(first byte) form {
	if first < firstMark {
		return alone
	}
	return inTwo + form(first-firstMark)
}

func (f form) mark() byte { return firstMark + byte(f-inTwo) }

// size is how many bytes a number of the form has, its mark with them.
func (f form) size() int {
	if f == alone {
		return 1
	}
	return 1 + 1<<f
}

// read is the number that b, which has at least the form's bytes, begins with.
func (f form) read(b []byte) uint64 {
	if f == alone {
		return uint64(b[0])
	}
	var n uint64
	for _, x := range b[1:f.size()] {
		n = n<<8 | uint64(x)
	}
	return n
}

// A row is bytes that are put one behind the other.
type row struct {
	bytes []byte
}

func (r *row) put(l ...byte) { r.bytes = append(r.bytes, l...) }

// putNumber puts the highest bytes first: a longer form has those ahead that a shorter one has no room for.
func (r *row) putNumber(n uint64) {
	f := formOf(n)
	if f != alone {
		r.put(f.mark())
	}
	switch f {
	case inEight:
		r.put(byte(n>>56), byte(n>>48), byte(n>>40), byte(n>>32))
		fallthrough
	case inFour:
		r.put(byte(n>>24), byte(n>>16))
		fallthrough
	case inTwo:
		r.put(byte(n >> 8))
		fallthrough
	default:
		r.put(byte(n))
	}
}
