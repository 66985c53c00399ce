package digest

import (
	"bytes"
	"crypto/sha256"
	"encoding/hex"
	"math/rand"
	"strings"
	"testing"
	"unsafe"
)

// edges are numbers of bytes about each full block, and about those at which one more block is begun.
func edges() []int {
	l := []int{0, 1, 2, 3}
	for block := 0; block <= 512; block += 64 {
		for _, n := range []int{54, 55, 56, 57, 62, 63, 64, 65, 66} {
			l = append(l, block+n)
		}
	}
	return l
}

// row is n bytes, each unlike its neighbours, as all bytes come up.
func row(n int) []byte {
	b := make([]byte, n)
	for i := range b {
		b[i] = byte(i*i + 167*i + n)
	}
	return b
}

func rowSum(b []byte) string {
	s := Sum(b)
	return hex.EncodeToString(s[:])
}

func of(s *State) string {
	sum := s.Sum()
	return hex.EncodeToString(sum[:])
}

func want(b []byte) string {
	s := sha256.Sum256(b)
	return hex.EncodeToString(s[:])
}

// known is sums that are written out, so that the tests do not lean on another program alone.
func known() map[string]string {
	return map[string]string{
		"":                        "e3b0c44298fc1c149afbf4c8996fb92427ae41e4649b934ca495991b7852b855",
		"abc":                     "ba7816bf8f01cfea414140de5dae2223b00361a396177a9cb410ff61f20015ad",
		strings.Repeat("a", 56):   "b35439a4ac6f0948b6d6f9e3c6af0f5f590ce20f1bde7090ef7970686ec6738a",
		strings.Repeat("a", 1e6):  "cdc76e5c9914fb9281a1c7e284d73e67f1809a48a497200e046d39ccc7112cd0",
		"a":                       "ca978112ca1bbdcafac231b39a23dc4da786eff8147c4e72b9807785afee48bb",
		"\xbd":                    "68325720aabd7c82f30f554b313d0570c95accbb7dc4b5aae11204c08ffe732b",
		"\xc9\x8c\x8e\x55":        "7abc22c0ae5af26ce93dbb94433a0e0b2e119d014f8e7f65bd56c61ccccd9504",
		strings.Repeat("\x00", 1): "6e340b9cffb37a989ca544e6bb780a2c78901d3fb33738768511a30617afa01d",
		"abcdbcdecdefdefgefghfghighijhijkijkljklmklmnlmnomnopnopq": "248d6a61d20638b8e5c026930c3e6039a33ce45964ff2167f6ecedd419db06c1",
	}
}

func TestP2_1Known(t *testing.T) {
	for text, sum := range known() {
		if got := rowSum([]byte(text)); got != sum {
			t.Errorf("Sum of %d bytes %.20q: %s, want %s", len(text), text, got, sum)
		}
	}
}

func TestP2_1NoBytes(t *testing.T) {
	none := "e3b0c44298fc1c149afbf4c8996fb92427ae41e4649b934ca495991b7852b855"
	for _, b := range [][]byte{nil, {}, make([]byte, 0, 64), row(64)[:0], row(64)[64:]} {
		if got := rowSum(b); got != none {
			t.Errorf("Sum of no bytes: %s", got)
		}
		if got := Hex(b); got != none {
			t.Errorf("Hex of no bytes: %s", got)
		}
	}
}

func TestP2_1EveryLength(t *testing.T) {
	for n := range 1100 {
		for _, b := range [][]byte{row(n), make([]byte, n), bytes.Repeat([]byte{255}, n), bytes.Repeat([]byte{128}, n)} {
			if got := rowSum(b); got != want(b) {
				t.Fatalf("Sum of %d bytes: %s, want %s", n, got, want(b))
			}
		}
	}
}

func TestP2_1EachByteCounts(t *testing.T) {
	for _, n := range edges() {
		b := row(n)
		whole := Sum(b)
		for i := range b {
			b[i] ^= 1 << (i % 8)
			if got := rowSum(b); got != want(b) {
				t.Fatalf("Sum of %d bytes, byte %d another: %s, want %s", n, i, got, want(b))
			}
			if Sum(b) == whole {
				t.Fatalf("byte %d of %d does not count", i, n)
			}
			b[i] ^= 1 << (i % 8)
		}
	}
}

func TestP2_1DrawnBytes(t *testing.T) {
	draw := rand.New(rand.NewSource(2))
	for range 3000 {
		b := make([]byte, draw.Intn(700))
		draw.Read(b)
		if got := rowSum(b); got != want(b) {
			t.Fatalf("Sum of %x: %s, want %s", b, got, want(b))
		}
	}
}

// 2^29 bytes are 2^32 bits: the length takes more than its lower four bytes.
func TestP2_1LongerThanFourBytesTell(t *testing.T) {
	piece := row(1 << 20)
	s, other := New(), sha256.New()
	for range 1 << 9 {
		s.Write(piece)
		other.Write(piece)
	}
	for range 2 {
		if got, want := of(s), hex.EncodeToString(other.Sum(nil)); got != want {
			t.Fatalf("%s, want %s", got, want)
		}
		s.Write(piece[:77])
		other.Write(piece[:77])
	}
}

func TestP2_2Hex(t *testing.T) {
	for text, sum := range known() {
		if got := Hex([]byte(text)); got != sum {
			t.Errorf("Hex of %d bytes %.20q: %s, want %s", len(text), text, got, sum)
		}
	}
	seen := map[rune]bool{}
	for n := range 400 {
		got := Hex(row(n))
		if got != want(row(n)) {
			t.Fatalf("Hex of %d bytes: %s, want %s", n, got, want(row(n)))
		}
		for _, c := range got {
			seen[c] = true
		}
	}
	if len(seen) != 16 {
		t.Errorf("%d digits came up", len(seen))
	}
}

func TestP2_3NewHasTakenInNothing(t *testing.T) {
	s := New()
	if s == nil {
		t.Fatal("New answers no state")
	}
	if got := of(s); got != want(nil) {
		t.Errorf("Sum of a new state: %s", got)
	}
	for _, b := range [][]byte{nil, {}, row(9)[9:]} {
		s.Write(b)
		if got := of(s); got != want(nil) {
			t.Errorf("Sum behind no bytes: %s", got)
		}
	}
}

func TestP2_3NilState(t *testing.T) {
	var s *State
	for _, b := range [][]byte{nil, []byte("a"), row(64), row(1000)} {
		s.Write(b)
		if got := of(s); got != want(nil) {
			t.Errorf("Sum of a nil state behind %d bytes: %s", len(b), got)
		}
	}
}

func TestP2_3ZeroState(t *testing.T) {
	for _, n := range edges() {
		var s State
		if got := of(&s); got != want(nil) {
			t.Fatalf("Sum of a zero state: %s", got)
		}
		s.Write(row(n))
		if got := of(&s); got != want(row(n)) {
			t.Fatalf("Sum of a zero state behind %d bytes: %s", n, got)
		}
	}
}

func TestP2_3GoesOnWhenAsked(t *testing.T) {
	all := row(400)
	asked := New()
	for i, c := range all {
		asked.Write([]byte{c})
		for range 2 {
			if got := of(asked); got != want(all[:i+1]) {
				t.Fatalf("behind %d bytes: %s, want %s", i+1, got, want(all[:i+1]))
			}
		}
	}
	for _, n := range edges() {
		for _, m := range edges() {
			s := New()
			s.Write(row(n))
			s.Sum()
			s.Write(row(m))
			if got, want := of(s), want(append(row(n), row(m)...)); got != want {
				t.Fatalf("asked behind %d bytes, then %d more: %s, want %s", n, m, got, want)
			}
		}
	}
}

func TestP2_3StatesAreTheirOwn(t *testing.T) {
	for _, n := range edges() {
		a, b := New(), New()
		a.Write(row(n))
		other := *a
		b.Write(row(n + 1))
		a.Write([]byte("more"))
		other.Write([]byte("else"))
		if got := of(a); got != want(append(row(n), "more"...)) {
			t.Fatalf("first state behind %d bytes: %s", n, got)
		}
		if got := of(b); got != want(row(n+1)) {
			t.Fatalf("second state behind %d bytes: %s", n, got)
		}
		if got := of(&other); got != want(append(row(n), "else"...)) {
			t.Fatalf("a state's copy behind %d bytes: %s", n, got)
		}
	}
}

func TestP2_4HandedInStays(t *testing.T) {
	for _, n := range edges() {
		memory := row(n + 80)
		b := memory[:n]
		Sum(b)
		Hex(b)
		s := New()
		s.Write(b)
		s.Write(b)
		s.Sum()
		if !bytes.Equal(memory, row(n+80)) {
			t.Fatalf("of %d bytes some were changed", n)
		}
	}
}

func TestP2_4NotKept(t *testing.T) {
	for _, n := range edges() {
		s, b := New(), row(n)
		s.Write(b)
		before := s.Sum()
		clear(b)
		if s.Sum() != before {
			t.Fatalf("%d bytes are kept", n)
		}
		b = append(b[:0], row(n)...)
		s.Write(b)
		clear(b)
		if got, want := of(s), want(append(row(n), row(n)...)); got != want {
			t.Fatalf("twice %d bytes are kept: %s, want %s", n, got, want)
		}
	}
}

func TestAnswersAreNewMemory(t *testing.T) {
	b := row(100)
	one, two := Hex(b), Hex(b)
	if unsafe.StringData(one) == unsafe.StringData(two) {
		t.Error("two answers of Hex share their memory")
	}
	x, y := New(), New()
	x.Write(b)
	if x == y || of(y) != want(nil) {
		t.Error("two states share their memory")
	}
}

func TestP2_5AllCutsInThree(t *testing.T) {
	all := row(200)
	sum := Sum(all)
	for i := range len(all) + 1 {
		for j := i; j <= len(all); j++ {
			s := New()
			s.Write(all[:i])
			s.Write(all[i:j])
			s.Write(all[j:])
			if s.Sum() != sum {
				t.Fatalf("cut at %d and %d: %s, want %s", i, j, of(s), want(all))
			}
		}
	}
}

func TestP2_5PiecesOfOneLength(t *testing.T) {
	all := row(900)
	for n := 1; n <= 300; n++ {
		s := New()
		for rest := all; len(rest) > 0; rest = rest[min(n, len(rest)):] {
			s.Write(rest[:min(n, len(rest))])
		}
		if got := of(s); got != want(all) {
			t.Fatalf("pieces of %d bytes: %s, want %s", n, got, want(all))
		}
	}
}

func TestP2_5DrawnPieces(t *testing.T) {
	draw := rand.New(rand.NewSource(5))
	for range 500 {
		s := New()
		var all []byte
		for range draw.Intn(30) {
			b := make([]byte, draw.Intn(1+draw.Intn(300)))
			draw.Read(b)
			s.Write(b)
			all = append(all, b...)
			if draw.Intn(3) == 0 && of(s) != want(all) {
				t.Fatalf("behind %d bytes: %s, want %s", len(all), of(s), want(all))
			}
		}
		if s.Sum() != Sum(all) || of(s) != want(all) {
			t.Fatalf("behind %d bytes: %s, want %s", len(all), of(s), want(all))
		}
	}
}
