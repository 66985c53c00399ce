package invoice

import (
	"slices"

	"sluiceway/api"
	"sluiceway/bech"
)

// Tags of fields.
const (
	tagHash   = 1
	tagPayee  = 19
	tagMemo   = 13
	tagExpiry = 6
	tagDelta  = 24
	tagSig    = 16
)

const (
	wordBits  = 5
	wordMask  = 1<<wordBits - 1
	byteBits  = 8
	sizeWords = 2 // that count the words of a field
	longWords = 7 // that hold a number up to maxLong, and just these
)

// wordsOf is of an invoice that may be, without its Sig.
func wordsOf(x api.Invoice) []byte {
	return slices.Concat(
		filledUp(longWords, x.Stamp),
		textField(tagHash, string(x.Hash)),
		textField(tagPayee, string(x.Payee)),
		textField(tagMemo, x.Memo),
		field(tagExpiry, numberWords(x.Expiry)),
		field(tagDelta, numberWords(int64(x.Delta))),
	)
}

func textField(tag byte, s string) []byte {
	words, _ := bech.Bits([]byte(s), byteBits, wordBits, true)
	return field(tag, words)
}

func field(tag byte, words []byte) []byte {
	return slices.Concat([]byte{tag}, filledUp(sizeWords, int64(len(words))), words)
}

// filledUp is a number's words with as many noughts ahead as make them count in all.
func filledUp(count int, n int64) []byte {
	words := numberWords(n)
	return append(make([]byte, count-len(words)), words...)
}

func numberWords(n int64) []byte {
	var words []byte
	for ; n > 0; n >>= wordBits {
		words = append(words, byte(n&wordMask))
	}
	slices.Reverse(words)
	return words
}
