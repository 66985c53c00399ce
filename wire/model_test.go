package wire

import (
	"bytes"
	"encoding/binary"
	"encoding/hex"
	"fmt"
	"math/rand"
	"slices"
	"strings"
	"testing"

	"sluiceway/api"
	"sluiceway/term"
)

// The model: what the chapter's words ask, by other means than the program's. Numbers are written by the library, and bytes are a message's if what they seem to say, whatever is wrong with it passed over, is written just so.

// table is the chapter's, by numbers.
func table() map[uint16][2]int {
	return map[uint16][2]int{
		16: {1, 0}, 33: {9, 6}, 39: {1, 1}, 133: {1, 2},
		17: {0, 0}, 34: {1, 1}, 128: {3, 2}, 136: {2, 2},
		18: {1, 0}, 35: {0, 1}, 130: {1, 1}, 256: {1, 8},
		19: {1, 0}, 36: {0, 1}, 131: {1, 1}, 257: {1, 2},
		32: {9, 6}, 38: {0, 1}, 132: {1, 1}, 258: {7, 2},
	}
}

// inOrder is the table's kinds.
func inOrder() []uint16 {
	var l []uint16
	for k := range table() {
		l = append(l, k)
	}
	slices.Sort(l)
	return l
}

// written is a count's bytes.
func written(n uint64) []byte {
	if n < 253 {
		return []byte{byte(n)}
	}
	if n < 1<<16 {
		return binary.BigEndian.AppendUint16([]byte{253}, uint16(n))
	}
	if n < 1<<32 {
		return binary.BigEndian.AppendUint32([]byte{254}, uint32(n))
	}
	return binary.BigEndian.AppendUint64([]byte{255}, n)
}

// counted is a text behind how many bytes it has.
func counted(s string) []byte { return append(written(uint64(len(s))), s...) }

// pieces is the bytes of a message, whether it may be or not: Kind, Chan, how many Nums, these, how many Terms, these, Text, More.
func pieces(m api.Msg) [][]byte {
	var nums, terms, more []byte
	for _, n := range m.Nums {
		nums = binary.BigEndian.AppendUint64(nums, uint64(n))
	}
	for _, t := range m.Terms {
		terms = append(terms, counted(string(t))...)
	}
	for _, r := range m.More {
		more = append(append(more, written(r.Type)...), counted(string(r.Body))...)
	}
	return [][]byte{
		binary.BigEndian.AppendUint16(nil, m.Kind), counted(m.Chan), written(uint64(len(m.Nums))), nums,
		written(uint64(len(m.Terms))), terms, counted(m.Text), more,
	}
}

func laid(m api.Msg) []byte { return slices.Concat(pieces(m)...) }

// may tells whether a message may be.
func may(m api.Msg) bool {
	want, known := table()[m.Kind]
	if known && want != [2]int{len(m.Nums), len(m.Terms)} {
		return false
	}
	if !known && (m.Kind&1 == 0 || len(m.Nums) > 32 || len(m.Terms) > 32) {
		return false
	}
	for _, t := range m.Terms {
		if !term.Right(t) {
			return false
		}
	}
	for i, r := range m.More {
		if r.Type&1 == 0 || i > 0 && r.Type <= m.More[i-1].Type {
			return false
		}
	}
	return len(m.Chan) <= 100 && len(m.Text) <= 4096 && len(m.More) <= 64 && len(laid(api.Msg{More: m.More}))-6 <= 32768
}

// encoded, decoded are what Encode, Decode should answer.
func encoded(m api.Msg) ([]byte, api.Errno) {
	if !may(m) {
		return nil, api.ErrMsg
	}
	if b := laid(m); len(b) <= 32768 {
		return b, api.OK
	}
	return nil, api.ErrLimit
}

func decoded(b []byte) (api.Msg, api.Errno) {
	if len(b) > 32768 {
		return api.Msg{}, api.ErrLimit
	}
	m := guessed(b)
	if !may(m) || !bytes.Equal(laid(m), b) {
		return api.Msg{}, api.ErrMsg
	}
	return m, api.OK
}

// guessed is what bytes seem to say: counts of any form, and as much of everything as is there.
func guessed(b []byte) api.Msg {
	left := bytes.NewBuffer(bytes.Clone(b))
	wide := func(size int) uint64 {
		l := left.Next(size)
		return binary.BigEndian.Uint64(append(make([]byte, 8-len(l)), l...))
	}
	count := func() int {
		n := wide(1)
		if n >= 253 {
			n = wide(2 << (n - 253))
		}
		return int(min(n, 40000))
	}
	text := func() string { return string(left.Next(count())) }
	m := api.Msg{Kind: uint16(wide(2)), Chan: text()}
	for range min(count(), 40) {
		m.Nums = append(m.Nums, int64(wide(8)))
	}
	for range min(count(), 40) {
		m.Terms = append(m.Terms, api.Term(text()))
	}
	m.Text = text()
	for left.Len() > 0 && len(m.More) < 70 {
		t := wide(1)
		if t >= 253 {
			t = wide(2 << (t - 253))
		}
		m.More = append(m.More, api.Record{Type: t, Body: []byte(text())})
	}
	return m
}

// same holds nil and empty lists alike.
func same(a, b api.Msg) bool {
	return a.Kind == b.Kind && a.Chan == b.Chan && slices.Equal(a.Nums, b.Nums) && slices.Equal(a.Terms, b.Terms) && a.Text == b.Text &&
		slices.EqualFunc(a.More, b.More, func(x, y api.Record) bool { return x.Type == y.Type && bytes.Equal(x.Body, y.Body) })
}

// short is what is shown of a thing.
func short(v any) string {
	s := fmt.Sprintf("%+v", v)
	if b, ok := v.([]byte); ok {
		s = fmt.Sprintf("% x", b)
	}
	if len(s) > 200 {
		return fmt.Sprintf("%q.. (%d)", s[:200], len(s))
	}
	return fmt.Sprintf("%q", s)
}

func checkEncode(t *testing.T, m api.Msg) {
	t.Helper()
	b, e := Encode(m)
	if want, wantE := encoded(m); e != wantE || !bytes.Equal(b, want) {
		t.Fatalf("Encode of %s: %s, %v; want %s, %v", short(m), short(b), e, short(want), wantE)
	}
}

func checkDecode(t *testing.T, b []byte) {
	t.Helper()
	m, e := Decode(b)
	if want, wantE := decoded(b); e != wantE || !same(m, want) {
		t.Fatalf("Decode of %s: %s, %v; want %s, %v", short(b), short(m), e, short(want), wantE)
	}
}

// encodesTo, decodesTo ask for an error, and for nothing beside it.
func encodesTo(t *testing.T, want api.Errno, m api.Msg) {
	t.Helper()
	if b, e := Encode(m); e != want || e != api.OK && len(b) != 0 {
		t.Errorf("Encode of %s: %s, %v; want %v", short(m), short(b), e, want)
	}
	checkEncode(t, m)
}

func decodesTo(t *testing.T, want api.Errno, b []byte) {
	t.Helper()
	if m, e := Decode(b); e != want || e != api.OK && !same(m, api.Msg{}) {
		t.Errorf("Decode of %s: %s, %v; want %v", short(b), short(m), e, want)
	}
	checkDecode(t, b)
}

// bothTo asks for an error of Encode, and of Decode of the bytes that the message would have.
func bothTo(t *testing.T, want api.Errno, m api.Msg) {
	t.Helper()
	encodesTo(t, want, m)
	decodesTo(t, want, laid(m))
}

// unhex is the bytes of hex digits, with blanks and commas between where one likes.
func unhex(s string) []byte {
	b, err := hex.DecodeString(strings.NewReplacer(" ", "", ",", "").Replace(s))
	if err != nil {
		panic(err)
	}
	return b
}

// sized is a message with so many parts, all of them right.
func sized(kind uint16, nums, terms int) api.Msg {
	m := api.Msg{Kind: kind}
	for i := range nums {
		m.Nums = append(m.Nums, int64(i-1))
	}
	for i := range terms {
		m.Terms = append(m.Terms, api.Term(fmt.Sprintf("n%d;", i)))
	}
	return m
}

// ofKind is a message of one of the table's kinds that may be.
func ofKind(kind uint16) api.Msg { return sized(kind, table()[kind][0], table()[kind][1]) }

// filled is m with a record behind its others that makes it so many bytes in all.
func filled(m api.Msg, size int) api.Msg {
	m.More = append(slices.Clip(m.More), api.Record{Type: 1<<63 + 1, Body: bytes.Repeat([]byte{7}, size-len(laid(m))-12)})
	if len(laid(m)) != size {
		panic(size)
	}
	return m
}

// textTerm is the term of a text that has so many bytes in all.
func textTerm(size int) api.Term {
	for head := 3; ; head++ {
		t := fmt.Sprintf("t%d:%s", size-head, strings.Repeat("x", size-head))
		if len(t) == size {
			return api.Term(t)
		}
	}
}

// longTerm is a tuple of five texts that has so many bytes in all: a right term, if these are not too many.
func longTerm(size int) api.Term {
	fifth := (size - 3) / 5
	t := "T5:" + api.Term(strings.Repeat(string(textTerm(fifth)), 4)) + textTerm(size-3-4*fifth)
	if len(t) != size || term.Right(t) != (size <= 16384) {
		panic(size)
	}
	return t
}

func odd(n uint64, body string) api.Record { return api.Record{Type: 2*n + 1, Body: []byte(body)} }

// manyRecords are so many with rising odd types.
func manyRecords(n int) []api.Record {
	var l []api.Record
	for i := range n {
		l = append(l, odd(uint64(i), ""))
	}
	return l
}

// drawn is a message that mostly may be.
func drawn(draw *rand.Rand) api.Msg {
	kind := inOrder()[draw.Intn(20)]
	m := ofKind(kind)
	if draw.Intn(3) == 0 {
		kind = uint16(draw.Intn(1<<15)*2 + 1)
		m = sized(kind, draw.Intn(33), draw.Intn(33))
		if _, known := table()[kind]; known {
			m = ofKind(kind)
		}
	}
	text := func(most int) string {
		b := make([]byte, draw.Intn(most+1)>>draw.Intn(12))
		draw.Read(b)
		return string(b)
	}
	m.Chan, m.Text = text(100), text(4096)
	for i := range m.Nums {
		m.Nums[i] = int64(draw.Uint64()) >> draw.Intn(64)
	}
	for i := range m.Terms {
		x, _ := term.Text(text(600))
		m.Terms[i] = []api.Term{"H", "Sn1;", "BHn2;", "P", "T1:", ""}[draw.Intn(6)] + x
	}
	at := uint64(0)
	for range draw.Intn(8) * draw.Intn(8) / 4 {
		at += draw.Uint64() >> (4 + draw.Intn(60)) / 16
		m.More = append(m.More, odd(at, text(300)))
		at++
	}
	return m
}
