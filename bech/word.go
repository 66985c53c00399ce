package bech

import "slices"

const (
	letters     = "qpzry9x8gf2tvdw0s3jn54khce6mua7l" // a word's letter stands at its place
	noWord      = 255
	wordBits    = 5
	closingSize = 6 // words at a text's end that make its check right
	rightCheck  = 1
	lowBits     = 25 // of a check, those that the next word moves up
)

// mixes are what goes into a check, by the bits that were moved out of it.
var mixes = [wordBits]uint32{0x3b6a57b2, 0x26508e6d, 0x1ea119fa, 0x3d4233dd, 0x2a1462b3}

func isNoWord(w byte) bool { return w >= 1<<wordBits }

// byLetter has each word at its letter's byte, and noWord at the others.
func byLetter() [256]byte {
	var l [256]byte
	for i := range l {
		l[i] = noWord
	}
	for w := range len(letters) {
		l[letters[w]] = byte(w)
	}
	return l
}

// wordsOf is the words of letters, with noWord for what is none.
func wordsOf(s string) []byte {
	words, found := make([]byte, len(s)), byLetter()
	for i := range words {
		words[i] = found[s[i]]
	}
	return words
}

// headWords is the words of a head.
func headWords(head string) []byte {
	var high, low []byte
	for i := range len(head) {
		high = append(high, head[i]>>wordBits)
		low = append(low, head[i]&(1<<wordBits-1))
	}
	return slices.Concat(high, []byte{0}, low)
}

// check is the check of words.
func check(words ...byte) uint32 {
	c := uint32(1)
	for _, w := range words {
		out := c >> lowBits
		c = c&(1<<lowBits-1)<<wordBits ^ uint32(w)
		for i, m := range mixes {
			if out>>i&1 == 1 {
				c ^= m
			}
		}
	}
	return c
}

// closing is the words that have to stand behind words for the check to be right.
func closing(head string, words []byte) []byte {
	l := make([]byte, closingSize)
	c := check(slices.Concat(headWords(head), words, l)...) ^ rightCheck
	for i := range l {
		l[i] = byte(c >> (wordBits * (closingSize - 1 - i)) & (1<<wordBits - 1))
	}
	return l
}
