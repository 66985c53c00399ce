package invoice

import (
	"strings"

	"sluiceway/api"
	"sluiceway/bech"
)

// gaveUp is what a reader panics with: its words are none of an invoice.
type gaveUp struct{}

// reader goes over the words of an invoice, those of its Sig behind them. Its methods answer what they were to read, or give up.
type reader struct {
	words []byte // those that are left
}

func (r *reader) must(holds bool) {
	if !holds {
		panic(gaveUp{})
	}
}

// invoice reads all but the Amount, which stands in the head. Whether the terms may be is not looked at.
func (r *reader) invoice() api.Invoice {
	var x api.Invoice
	x.Stamp = value(r.take(longWords))
	x.Hash = api.Term(r.text(tagHash))
	x.Payee = api.Term(r.text(tagPayee))
	x.Memo = r.text(tagMemo)
	x.Expiry = r.number(tagExpiry, maxLong)
	x.Delta = int(r.number(tagDelta, maxDelta))
	x.Sig = api.Term(r.text(tagSig))
	r.must(len(r.words) == 0)
	return x
}

// text clones what it tells, as Go lets all texts of the same single byte share their memory.
func (r *reader) text(tag byte) string {
	b, e := bech.Bits(r.field(tag), wordBits, byteBits, false)
	r.must(e == api.OK)
	return strings.Clone(string(b))
}

// number gives up what is above most itself: an int that has but 32 bits could not hold it.
func (r *reader) number(tag byte, most int64) int64 {
	words := r.field(tag)
	r.must(len(words) <= longWords && (len(words) == 0 || words[0] != 0))
	n := value(words)
	r.must(n <= most)
	return n
}

func (r *reader) field(tag byte) []byte {
	r.must(r.take(1)[0] == tag)
	return r.take(int(value(r.take(sizeWords))))
}

func (r *reader) take(count int) []byte {
	r.must(count <= len(r.words))
	taken := r.words[:count]
	r.words = r.words[count:]
	return taken
}

// value is the number of at most longWords words.
func value(words []byte) int64 {
	var n int64
	for _, w := range words {
		n = n<<wordBits | int64(w)
	}
	return n
}
