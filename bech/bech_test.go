package bech

import (
	"bytes"
	"encoding/hex"
	"fmt"
	"math"
	"math/rand"
	"regexp"
	"slices"
	"strconv"
	"strings"
	"testing"
	"unsafe"

	"sluiceway/api"
)

// The model: what the chapter's words ask, by other means than the program's. A check is what a polynomial over 32 numbers leaves when it is divided by one of degree 6, bits are texts of 0 and 1, and texts are told by patterns.

const alphabet = "qpzry9x8gf2tvdw0s3jn54khce6mua7l"

// times is the product of two of the 32 numbers.
func times(a, b byte) byte {
	p := 0
	for i := range 5 {
		if b>>i&1 == 1 {
			p ^= int(a) << i
		}
	}
	for i := 8; i >= 5; i-- {
		if p>>i&1 == 1 {
			p ^= 0b101001 << (i - 5)
		}
	}
	return byte(p)
}

// rest is what words, with a 1 ahead, leave: six words, that of the highest power first.
func rest(words []byte) []byte {
	l := append([]byte{0, 0, 0, 0, 0, 1}, words...)
	for i := range words {
		for k, factor := range []byte{1, 29, 22, 20, 21, 29, 18} {
			if k > 0 {
				l[i+k] ^= times(factor, l[i])
			}
		}
	}
	return l[len(words):]
}

// spelt is the words of a head.
func spelt(head string) []byte {
	l := make([]byte, 2*len(head)+1)
	for i := range len(head) {
		l[i] = head[i] / 32
		l[len(head)+1+i] = head[i] % 32
	}
	return l
}

var (
	headPattern = regexp.MustCompile(`\A[!-@\[-~]{1,83}\z`)
	textPattern = regexp.MustCompile(`\A([!-~]{1,83})1([02-9ac-hj-np-z]{6,})\z`)
)

// laid is the text of a head and words, whether it may be or not.
func laid(head string, words []byte) string {
	l := slices.Concat(words, rest(slices.Concat(spelt(head), words, make([]byte, 6))))
	l[len(l)-1] ^= 1
	for i, w := range l {
		l[i] = alphabet[w]
	}
	return head + "1" + string(l)
}

// encoded is what Encode should answer.
func encoded(head string, words []byte) (string, api.Errno) {
	if !headPattern.MatchString(head) || len(words) > 0 && slices.Max(words) > 31 {
		return "", api.ErrBech
	}
	if s := laid(head, words); len(s) <= 32768 {
		return s, api.OK
	}
	return "", api.ErrLimit
}

// decoded is what Decode should answer.
func decoded(s string) (string, []byte, api.Errno) {
	if len(s) > 32768 {
		return "", nil, api.ErrLimit
	}
	low := strings.ToLower(s)
	parts := textPattern.FindStringSubmatch(low)
	if parts == nil || len(low) != len(s) || s != low && s != strings.ToUpper(s) {
		return "", nil, api.ErrBech
	}
	var words []byte
	for _, c := range parts[2] {
		words = append(words, byte(strings.IndexRune(alphabet, c)))
	}
	if !bytes.Equal(rest(append(spelt(parts[1]), words...)), []byte{0, 0, 0, 0, 0, 1}) {
		return "", nil, api.ErrSum
	}
	return parts[1], words[:len(words)-6], api.OK
}

// cut is what Bits should answer.
func cut(b []byte, from, to int, pad bool) ([]byte, api.Errno) {
	if min(from, to) < 1 || max(from, to) > 8 {
		return nil, api.ErrArg
	}
	var row strings.Builder
	for _, n := range b {
		s := strconv.FormatInt(int64(n), 2)
		if n > 0 && len(s) > from {
			return nil, api.ErrForm
		}
		row.WriteString(strings.Repeat("0", max(0, from-len(s))) + s)
	}
	s := row.String()
	left := s[len(s)-len(s)%to:]
	if pad && left != "" {
		s += strings.Repeat("0", to-len(left))
	}
	if !pad && (len(left) >= from || strings.Contains(left, "1")) {
		return nil, api.ErrForm
	}
	var out []byte
	for ; len(s) >= to; s = s[to:] {
		n, _ := strconv.ParseUint(s[:to], 2, 8)
		out = append(out, byte(n))
	}
	return out, api.OK
}

// short is s, or its beginning where it is long.
func short[T string | []byte](s T) string {
	if len(s) > 100 {
		return fmt.Sprintf("%q.. (%d bytes)", s[:100], len(s))
	}
	return fmt.Sprintf("%q", s)
}

func checkEncode(t *testing.T, head string, words []byte) {
	t.Helper()
	s, e := Encode(head, words)
	if want, wantE := encoded(head, words); s != want || e != wantE {
		t.Fatalf("Encode of %s and %s: %s, %v; want %s, %v", short(head), short(words), short(s), e, short(want), wantE)
	}
}

func checkDecode(t *testing.T, s string) {
	t.Helper()
	head, words, e := Decode(s)
	if wantH, wantW, wantE := decoded(s); head != wantH || !bytes.Equal(words, wantW) || e != wantE {
		t.Fatalf("Decode of %s: %s, %s, %v; want %s, %s, %v", short(s), short(head), short(words), e, short(wantH), short(wantW), wantE)
	}
}

func checkBits(t *testing.T, b []byte, from, to int, pad bool) {
	t.Helper()
	l, e := Bits(b, from, to, pad)
	if want, wantE := cut(b, from, to, pad); e != wantE || !bytes.Equal(l, want) {
		t.Fatalf("Bits of % x, %d, %d, %v: % x, %v; want % x, %v", b, from, to, pad, l, e, want, wantE)
	}
}

// decodesTo asks for an error, and for nothing beside it.
func decodesTo(t *testing.T, want api.Errno, s string) {
	t.Helper()
	if head, words, e := Decode(s); e != want || e != api.OK && (head != "" || len(words) != 0) {
		t.Errorf("Decode of %s: %s, %s, %v; want %v", short(s), short(head), short(words), e, want)
	}
	checkDecode(t, s)
}

// encodesTo is the same of Encode.
func encodesTo(t *testing.T, want api.Errno, head string, words []byte) {
	t.Helper()
	if s, e := Encode(head, words); e != want || e != api.OK && s != "" {
		t.Errorf("Encode of %s and %s: %s, %v; want %v", short(head), short(words), short(s), e, want)
	}
	checkEncode(t, head, words)
}

// allWords is 0 to 31.
func allWords() []byte {
	l := make([]byte, 32)
	for i := range l {
		l[i] = byte(i)
	}
	return l
}

func drawnWords(draw *rand.Rand, n int) []byte {
	l := make([]byte, n)
	for i := range l {
		l[i] = byte(draw.Intn(32))
	}
	return l
}

// drawnHead is one that may be.
func drawnHead(draw *rand.Rand) string {
	l := make([]byte, 1+draw.Intn(8))
	if draw.Intn(10) == 0 {
		l = make([]byte, 80+draw.Intn(4))
	}
	for i := range l {
		l[i] = byte(33 + draw.Intn(94))
		if draw.Intn(5) == 0 {
			l[i] = '1'
		}
	}
	return strings.ToLower(string(l))
}

// unhex is the bytes of hex digits, with blanks between where one likes.
func unhex(s string) []byte {
	b, err := hex.DecodeString(strings.ReplaceAll(s, " ", ""))
	if err != nil {
		panic(err)
	}
	return b
}

// A known text is one that others have written, with its head and its letters behind the 1, but for the last six.
type known struct{ text, head, letters string }

func knownTexts() []known {
	return []known{
		{"a12uel5l", "a", ""},
		{"?1ezyfcl", "?", ""},
		{"abcdef1qpzry9x8gf2tvdw0s3jn54khce6mua7lmqqqxw", "abcdef", alphabet},
		{"an83characterlonghumanreadablepartthatcontainsthenumber1andtheexcludedcharactersbio1tt5tgs", "an83characterlonghumanreadablepartthatcontainsthenumber1andtheexcludedcharactersbio", ""},
		{"11" + strings.Repeat("q", 82) + "c8247j", "1", strings.Repeat("q", 82)},
		{"split1checkupstagehandshakeupstreamerranterredcaperred2y9e3w", "split", "checkupstagehandshakeupstreamerranterredcaperred"},
		{"bc1qw508d6qejxtdg4y5r3zarvary0c5xw7kv8f3t4", "bc", "qw508d6qejxtdg4y5r3zarvary0c5xw7k"},
		{"tb1qrp33g0q5c5txsp9arysrx4k6zdkfs4nce4xj0gdcccefvpysxf3q0sl5k7", "tb", "qrp33g0q5c5txsp9arysrx4k6zdkfs4nce4xj0gdcccefvpysxf3q"},
	}
}

// ofLetters is the words of letters.
func ofLetters(s string) []byte {
	var l []byte
	for i := range len(s) {
		l = append(l, byte(strings.IndexByte(alphabet, s[i])))
	}
	return l
}

func TestP6_1EncodeExamples(t *testing.T) {
	for _, x := range knownTexts() {
		if s, e := Encode(x.head, ofLetters(x.letters)); s != x.text || e != api.OK {
			t.Errorf("Encode of %s and %s: %s, %v; want %s", x.head, x.letters, s, e, x.text)
		}
		checkEncode(t, x.head, ofLetters(x.letters))
	}
	for _, none := range [][]byte{nil, {}} {
		if s, e := Encode("a", none); s != "a12uel5l" || e != api.OK {
			t.Errorf("Encode of a and none: %s, %v", s, e)
		}
	}
}

func TestP6_1Heads(t *testing.T) {
	for n, want := range map[int]api.Errno{0: api.ErrBech, 1: api.OK, 2: api.OK, 82: api.OK, 83: api.OK, 84: api.ErrBech, 85: api.ErrBech, 1000: api.ErrBech, 40000: api.ErrBech} {
		encodesTo(t, want, strings.Repeat("x", n), []byte{1, 2, 3})
		encodesTo(t, want, strings.Repeat("1", n), nil)
	}
	for c := range 256 {
		want := api.OK
		if c < 33 || c > 126 || c >= 'A' && c <= 'Z' {
			want = api.ErrBech
		}
		one := string([]byte{byte(c)})
		for _, head := range []string{one, one + "bc", "b" + one + "c", "bc" + one, strings.Repeat("b", 82) + one} {
			encodesTo(t, want, head, []byte{31, 0})
		}
	}
	for _, head := range []string{" ", "\x7f", "A", "Z", "aZ", "é", "a\x00", "\xff", "ab\n", "K"} {
		encodesTo(t, api.ErrBech, head, nil)
	}
	for _, head := range []string{"!", "~", "@", "[", "`", "{", "1", "11", "a1b", "b"} {
		encodesTo(t, api.OK, head, nil)
	}
}

func TestP6_1Words(t *testing.T) {
	for w := range 256 {
		want := api.OK
		if w > 31 {
			want = api.ErrBech
		}
		for _, words := range [][]byte{{byte(w)}, {byte(w), 0}, {0, byte(w)}, {1, byte(w), 2}, append(allWords(), byte(w))} {
			encodesTo(t, want, "a", words)
		}
	}
}

func TestP6_1LongTexts(t *testing.T) {
	draw := rand.New(rand.NewSource(61))
	for _, head := range []string{"a", "1", "abcdef", strings.Repeat("h", 83)} {
		most := api.MaxMsg - len(head) - 7
		for more, want := range map[int]api.Errno{-1: api.OK, 0: api.OK, 1: api.ErrLimit, 2: api.ErrLimit, 5: api.ErrLimit, 6: api.ErrLimit, 7: api.ErrLimit, 8: api.ErrLimit, 1 << 20: api.ErrLimit} {
			encodesTo(t, want, head, drawnWords(draw, most+more))
		}
		if s, _ := Encode(head, make([]byte, most)); len(s) != 32768 {
			t.Errorf("the longest text with a head of %d bytes has %d", len(head), len(s))
		}
	}
}

func TestP6_1FirstError(t *testing.T) {
	long := make([]byte, 40000)
	wrong := append(make([]byte, 40000), 32)
	encodesTo(t, api.ErrLimit, "a", long)
	encodesTo(t, api.ErrBech, "a", wrong)
	encodesTo(t, api.ErrBech, "", long)
	encodesTo(t, api.ErrBech, "A", long)
	encodesTo(t, api.ErrBech, strings.Repeat("a", 84), long)
	encodesTo(t, api.ErrBech, strings.Repeat("a", 40000), nil)
}

func TestP6_1Drawn(t *testing.T) {
	draw := rand.New(rand.NewSource(611))
	for range 20000 {
		head, words := drawnHead(draw), drawnWords(draw, draw.Intn(40))
		checkEncode(t, head, words)
		if len(words) > 0 {
			words[draw.Intn(len(words))] = byte(draw.Intn(256))
		}
		b := []byte(head)
		b[draw.Intn(len(b))] = byte(draw.Intn(256))
		checkEncode(t, string(b), words)
	}
}

func TestP6_2DecodeExamples(t *testing.T) {
	for _, x := range knownTexts() {
		for _, s := range []string{x.text, strings.ToUpper(x.text)} {
			head, words, e := Decode(s)
			if head != x.head || !bytes.Equal(words, ofLetters(x.letters)) || e != api.OK {
				t.Errorf("Decode of %s: %s, %v, %v; want %s, %s", s, head, words, e, x.head, x.letters)
			}
			checkDecode(t, s)
		}
	}
}

func TestP6_2WrongTexts(t *testing.T) {
	for _, s := range []string{
		"", "1", "a", "a1", "11", "qqqqqqqq", "pzry9x0s0muk", "1pzry9x0s0muk", "10a06t8", "1qzzfhee",
		"\x201nwldj5", "\x7f1axkwrx", "\x801eym55h", "de1lg7wt\xff", "a12uel5l\n", "a12uel5l ", " a12uel5l",
		"x1b4n0q5v", "y1b0jsk6g", "lt1igcx5c0", "li1dgmt3",
		"A12uel5l", "a12UEL5L", "a12ueL5l", "A12UEl5L",
		"an84characterslonghumanreadablepartthatcontainsthenumber1andtheexcludedcharactersbio1569pvx",
	} {
		decodesTo(t, api.ErrBech, s)
	}
	for _, s := range []string{"a12uel5m", "A12UEL5M", "a12uel5q", "b12uel5l", "A1G7SGD8", "?1ezyfc2", "abcdef1qpzry9x8gf2tvdw0s3jn54khce6mua7lmqqqx2", "a1qqqqqq"} {
		decodesTo(t, api.ErrSum, s)
	}
}

func TestP6_2Bytes(t *testing.T) {
	for _, s := range []string{laid("a!b", allWords()), strings.ToUpper(laid("a!b", allWords())), laid("?2", []byte{15, 10, 7, 29, 20})} {
		for i := range len(s) {
			for c := range 256 {
				b := []byte(s)
				b[i] = byte(c)
				_, _, e := Decode(string(b))
				if outside := c < 33 || c > 126; outside && e != api.ErrBech {
					t.Fatalf("Decode of %q: %v", b, e)
				}
				checkDecode(t, string(b))
			}
		}
	}
}

func TestP6_2SmallAndCapital(t *testing.T) {
	s := laid("ab?", []byte{1, 2, 3, 31, 0})
	for i := range len(s) {
		mixed := s[:i] + strings.ToUpper(s[i:i+1]) + s[i+1:]
		want := api.ErrBech
		if mixed == s {
			want = api.OK
		}
		decodesTo(t, want, mixed)
	}
	decodesTo(t, api.ErrBech, strings.ToUpper("ab?")+s[3:])
	decodesTo(t, api.ErrBech, "ab?"+strings.ToUpper(s[3:]))
	figures := laid("?9", []byte{8, 10, 15})
	decodesTo(t, api.OK, figures)
	decodesTo(t, api.OK, strings.ToUpper(figures))
	for _, edge := range []string{"@", "[", "`", "{"} {
		s := laid(edge, nil)
		decodesTo(t, api.OK, s)
		decodesTo(t, api.OK, strings.ToUpper(s))
	}
}

func TestP6_2TheLastOne(t *testing.T) {
	for _, head := range []string{"1", "11", "1111111", "a1", "1a", "a1b", "1a1b1", "q1qqqqqqq", strings.Repeat("1", 83)} {
		for _, words := range [][]byte{nil, {0}, allWords()} {
			s := laid(head, words)
			got, back, e := Decode(s)
			if got != head || !bytes.Equal(back, words) || e != api.OK {
				t.Errorf("Decode of %s: %s, %v, %v", s, got, back, e)
			}
		}
	}
	s := laid("abc", allWords())
	decodesTo(t, api.ErrBech, strings.Replace(s, "1", "", 1))
	decodesTo(t, api.ErrBech, strings.Replace(s, "1", "q", 1))
	decodesTo(t, api.ErrBech, s[3:])
	decodesTo(t, api.ErrBech, s+"1")
	decodesTo(t, api.ErrBech, s[:len(s)-5]+"1"+s[len(s)-5:])
	decodesTo(t, api.ErrSum, s[:len(s)-6]+"1"+s[len(s)-6:])
	decodesTo(t, api.ErrBech, "1"+laid("", allWords())[1:])
	decodesTo(t, api.ErrBech, laid("", nil))
}

func TestP6_2Sizes(t *testing.T) {
	for n, want := range map[int]api.Errno{0: api.ErrBech, 1: api.OK, 2: api.OK, 83: api.OK, 84: api.ErrBech, 85: api.ErrBech, 300: api.ErrBech} {
		for _, c := range []string{"x", "1", "~"} {
			decodesTo(t, want, laid(strings.Repeat(c, n), []byte{4, 5}))
			decodesTo(t, want, laid(strings.Repeat(c, n), nil))
		}
	}
	s := laid("a", nil)
	for n := range 6 {
		decodesTo(t, api.ErrBech, s[:2+n])
		decodesTo(t, api.ErrBech, "a1"+strings.Repeat("q", n))
	}
	decodesTo(t, api.OK, s)
	decodesTo(t, api.ErrSum, "a1"+strings.Repeat("q", 6))
}

func TestP6_2Letters(t *testing.T) {
	for _, upper := range []bool{false, true} {
		for c := 33; c < 127; c++ {
			letter := string(rune(c))
			if upper != (letter == strings.ToUpper(letter)) && strings.ToUpper(letter) != strings.ToLower(letter) {
				continue
			}
			want := api.ErrBech
			if strings.Contains(alphabet, strings.ToLower(letter)) {
				want = api.ErrSum
			}
			for _, s := range []string{"aqqqqqqqq", "aqqqqqqqqp", "aqqqpqqqqq"} {
				if upper {
					s = strings.ToUpper(s)
				}
				for at := 2; at <= len(s); at++ {
					wrong := s[:1] + "1" + s[1:at] + letter + s[at:]
					if _, _, e := Decode(wrong); c != '1' && e != want {
						t.Errorf("Decode of %s: %v, want %v", wrong, e, want)
					}
					checkDecode(t, wrong)
				}
			}
		}
	}
}

func TestP6_2LongTexts(t *testing.T) {
	draw := rand.New(rand.NewSource(62))
	for _, head := range []string{"a", "1z", strings.Repeat("h", 83)} {
		most := api.MaxMsg - len(head) - 7
		words := drawnWords(draw, most)
		s := laid(head, words)
		got, back, e := Decode(s)
		if len(s) != api.MaxMsg || got != head || !bytes.Equal(back, words) || e != api.OK {
			t.Errorf("Decode of a text of %d bytes: %s, %d words, %v", len(s), got, len(back), e)
		}
		decodesTo(t, api.OK, strings.ToUpper(s))
		decodesTo(t, api.ErrLimit, laid(head, append(words, 0)))
		decodesTo(t, api.ErrLimit, s+"q")
		decodesTo(t, api.ErrSum, s[:len(s)-1]+string(alphabet[31-strings.IndexByte(alphabet, s[len(s)-1])]))
	}
}

func TestP6_2FirstError(t *testing.T) {
	for name, s := range map[string]string{
		"no right byte":      strings.Repeat("\x00", api.MaxMsg+1),
		"no 1":               strings.Repeat("q", api.MaxMsg+1),
		"small and capital":  "aA1" + strings.Repeat("q", api.MaxMsg),
		"nothing ahead":      "1" + strings.Repeat("q", api.MaxMsg),
		"too much ahead":     strings.Repeat("q", api.MaxMsg) + "1qqqqqq",
		"nothing behind":     strings.Repeat("q", api.MaxMsg) + "1",
		"no letters":         "a1" + strings.Repeat("b", api.MaxMsg),
		"a wrong check":      "a1" + strings.Repeat("q", api.MaxMsg-1),
		"far too many bytes": strings.Repeat("1", 1<<22),
	} {
		if head, words, e := Decode(s); head != "" || len(words) != 0 || e != api.ErrLimit {
			t.Errorf("%s, and too long: %s, %d words, %v", name, short(head), len(words), e)
		}
	}
	for name, s := range map[string]string{
		"no right byte":              "a\x7f1qqqqqq",
		"no right byte behind":       "a1qqqqqq\x80",
		"small and capital":          "aA1qqqqqq",
		"small ahead, capital after": "a1QQQQQQ",
		"nothing ahead":              "1qqqqqq",
		"too much ahead":             strings.Repeat("q", 84) + "1qqqqqq",
		"too little behind":          "a1qqqqq",
		"no letter":                  "a1qqqqqb",
		"MaxMsg bytes, no 1":         strings.Repeat("q", api.MaxMsg),
		"MaxMsg bytes, too much":     strings.Repeat("q", api.MaxMsg-7) + "1qqqqqq",
	} {
		if head, words, e := Decode(s); head != "" || len(words) != 0 || e != api.ErrBech {
			t.Errorf("%s, and a wrong check: %s, %d words, %v", name, short(head), len(words), e)
		}
	}
}

func TestP6_2Drawn(t *testing.T) {
	draw := rand.New(rand.NewSource(622))
	for range 20000 {
		s := laid(drawnHead(draw), drawnWords(draw, draw.Intn(20)))
		if draw.Intn(3) == 0 {
			s = strings.ToUpper(s)
		}
		checkDecode(t, s)
		b := []byte(s)
		at := draw.Intn(len(b))
		b[at] = byte(33 + draw.Intn(94))
		checkDecode(t, string(b))
		checkDecode(t, s[at:])
		checkDecode(t, s[:at])
		checkDecode(t, s[:at]+"1"+s[at:])
		checkDecode(t, s[:at]+s[at+1:])
	}
	for range 50000 {
		b := make([]byte, draw.Intn(14))
		for i := range b {
			b[i] = "1111qqpz9AbBZ~! \x7fl"[draw.Intn(18)]
		}
		checkDecode(t, string(b))
	}
}

func TestP6_3BitsExamples(t *testing.T) {
	for _, x := range []struct {
		b        string
		from, to int
		pad      bool
		want     string
		e        api.Errno
	}{
		{"ff 00", 8, 5, true, "1f 1c 00 00", api.OK},
		{"1f 1c 00 00", 5, 8, false, "ff 00", api.OK},
		{"1f 1d 00 00", 5, 8, false, "ff 40", api.OK},
		{"1f 1d 00 01", 5, 8, false, "", api.ErrForm},
		{"1f 1d 00 08", 5, 8, false, "", api.ErrForm},
		{"1f 1d 00 10", 5, 8, false, "ff 41", api.OK},
		{"1f 1d 00 01", 5, 8, true, "ff 40 10", api.OK},
		{"1f", 5, 8, false, "", api.ErrForm},
		{"1f", 5, 8, true, "f8", api.OK},
		{"00", 5, 8, false, "", api.ErrForm},
		{"00", 5, 8, true, "00", api.OK},
		{"00 00", 5, 8, false, "00", api.OK},
		{"00 00 00", 5, 8, false, "", api.ErrForm},
		{"20", 5, 8, true, "", api.ErrForm},
		{"01", 0, 8, true, "", api.ErrArg},
		{"a5 5a", 8, 8, false, "a5 5a", api.OK},
		{"a5 5a", 8, 8, true, "a5 5a", api.OK},
		{"a5", 8, 1, false, "01 00 01 00 00 01 00 01", api.OK},
		{"01 00 01 00 00 01 00 01", 1, 8, false, "a5", api.OK},
		{"01 00 01 00 00 01 00 01 00", 1, 8, false, "", api.ErrForm},
		{"01 00 01 00 00 01 00 01 00", 1, 8, true, "a5 00", api.OK},
		{"01 00 01 00 00 01 00 01 01", 1, 8, true, "a5 80", api.OK},
		{"01 00 01", 1, 1, false, "01 00 01", api.OK},
		{"02", 1, 1, true, "", api.ErrForm},
		{"f8", 8, 5, false, "1f", api.OK},
		{"f9", 8, 5, false, "", api.ErrForm},
		{"fc", 8, 5, false, "", api.ErrForm},
		{"f9", 8, 5, true, "1f 04", api.OK},
		{"01 02 03", 2, 3, true, "03 03", api.OK},
		{"01 02 03", 2, 3, false, "03 03", api.OK},
		{"07 00", 3, 2, false, "03 02 00", api.OK},
		{"07 07 07", 3, 2, false, "", api.ErrForm},
		{"06 06 06", 3, 2, false, "03 01 02 03", api.OK},
	} {
		l, e := Bits(unhex(x.b), x.from, x.to, x.pad)
		if e != x.e || !bytes.Equal(l, unhex(x.want)) {
			t.Errorf("Bits of %s, %d, %d, %v: % x, %v; want %s, %v", x.b, x.from, x.to, x.pad, l, e, x.want, x.e)
		}
		checkBits(t, unhex(x.b), x.from, x.to, x.pad)
	}
}

func TestP6_3Sizes(t *testing.T) {
	sizes := []int{math.MinInt, math.MinInt32, -8, -5, -1, 0, 1, 2, 3, 4, 5, 6, 7, 8, 9, 10, 16, 32, 63, 64, 256 + 5, 1<<32 + 5, math.MaxInt32, math.MaxInt}
	for _, from := range sizes {
		for _, to := range sizes {
			right := from >= 1 && from <= 8 && to >= 1 && to <= 8
			for _, pad := range []bool{false, true} {
				for _, b := range [][]byte{nil, {}, {0}, {1}, {255}, {1, 0, 1}, {0, 255}} {
					l, e := Bits(b, from, to, pad)
					if (e == api.ErrArg) == right || e != api.OK && len(l) != 0 {
						t.Errorf("Bits of % x, %d, %d, %v: % x, %v", b, from, to, pad, l, e)
					}
					checkBits(t, b, from, to, pad)
				}
				if l, e := Bits(nil, from, to, pad); right && (len(l) != 0 || e != api.OK) {
					t.Errorf("Bits of nothing, %d, %d, %v: % x, %v", from, to, pad, l, e)
				}
			}
		}
	}
}

func TestP6_3Numbers(t *testing.T) {
	for from := 1; from <= 8; from++ {
		for n := range 256 {
			for _, b := range [][]byte{{byte(n)}, {0, byte(n)}, {byte(n), 0, 1}} {
				if l, e := Bits(b, from, from, n%2 == 0); n < 1<<from && (e != api.OK || !bytes.Equal(l, b)) || n >= 1<<from && e != api.ErrForm {
					t.Errorf("Bits of % x, %d, %d: % x, %v", b, from, from, l, e)
				}
			}
			for to := 1; to <= 8; to++ {
				for _, m := range []byte{0, 1, 2, 5, 16, 31, 32, 85, 128, 170, 254, 255} {
					checkBits(t, []byte{byte(n), m}, from, to, true)
					checkBits(t, []byte{byte(n), m}, from, to, false)
				}
			}
		}
	}
}

// TestP6_3Left: numbers 0, as many as leave each count of bits there is; then one of those bits is 1.
func TestP6_3Left(t *testing.T) {
	for from := 1; from <= 8; from++ {
		for to := 1; to <= 8; to++ {
			for size := range 17 {
				b := make([]byte, size)
				left := size * from % to
				want, told := api.OK, size*from/to
				if left >= from {
					want, told = api.ErrForm, 0
				}
				if l, e := Bits(b, from, to, false); e != want || len(l) != told {
					t.Errorf("Bits of %d numbers 0, %d, %d, false: % x, %v", size, from, to, l, e)
				}
				if l, e := Bits(b, from, to, true); e != api.OK || len(l) != (size*from+to-1)/to || bytes.ContainsFunc(l, func(r rune) bool { return r != 0 }) {
					t.Errorf("Bits of %d numbers 0, %d, %d, true: % x, %v", size, from, to, l, e)
				}
				for bit := range size * from {
					at := size - 1 - bit/from
					b[at] = 1 << (bit % from)
					_, e := Bits(b, from, to, false)
					if (e == api.ErrForm) != (left >= from || bit < left) {
						t.Errorf("Bits of % x, %d, %d, false: %v", b, from, to, e)
					}
					checkBits(t, b, from, to, true)
					checkBits(t, b, from, to, false)
					b[at] = 0
				}
			}
		}
	}
}

func TestP6_3FirstError(t *testing.T) {
	for _, x := range []struct {
		b        []byte
		from, to int
		e        api.Errno
	}{
		{[]byte{255}, 0, 8, api.ErrArg}, {[]byte{255}, 9, 8, api.ErrArg}, {[]byte{255}, 5, 0, api.ErrArg}, {[]byte{255}, 5, 9, api.ErrArg}, {[]byte{255}, 0, 9, api.ErrArg},
		{[]byte{255}, 5, 8, api.ErrForm}, {[]byte{31}, 5, 8, api.ErrForm}, {nil, 9, 9, api.ErrArg}, {nil, 0, 0, api.ErrArg},
	} {
		if l, e := Bits(x.b, x.from, x.to, false); e != x.e || len(l) != 0 {
			t.Errorf("Bits of % x, %d, %d, false: % x, %v; want %v", x.b, x.from, x.to, l, e, x.e)
		}
	}
	if l, e := Bits(append(make([]byte, 1000), 32), 5, 8, true); e != api.ErrForm || len(l) != 0 {
		t.Errorf("Bits of many and a wrong one: % x, %v", l, e)
	}
}

func TestP6_3Drawn(t *testing.T) {
	draw := rand.New(rand.NewSource(63))
	for range 50000 {
		from, to := 1+draw.Intn(8), 1+draw.Intn(8)
		b := make([]byte, draw.Intn(24))
		for i := range b {
			b[i] = byte(draw.Intn(1 << from))
		}
		checkBits(t, b, from, to, true)
		checkBits(t, b, from, to, false)
		if len(b) > 0 {
			b[draw.Intn(len(b))] = byte(draw.Intn(256))
			checkBits(t, b, from, to, true)
		}
	}
	long := make([]byte, 100000)
	draw.Read(long)
	checkBits(t, long, 8, 5, true)
	checkBits(t, long, 8, 1, false)
}

// roomy is l with room behind its length, which holds what no call may touch.
func roomy(l []byte) []byte {
	return append(bytes.Clone(l), bytes.Repeat([]byte{0xaa}, 64)...)[:len(l)]
}

func TestP6_4OnlyRead(t *testing.T) {
	words, numbers := roomy(allWords()), roomy([]byte{1, 0, 1, 1, 0, 1, 1, 1, 1, 1})
	wordsBefore, numbersBefore := bytes.Clone(words[:cap(words)]), bytes.Clone(numbers[:cap(numbers)])
	for n := range len(words) {
		Encode("abc", words[:n])
		Encode("", words[n:])
		Encode("abc", words[n:])
	}
	for from := range 10 {
		for to := range 10 {
			for n := range len(numbers) {
				Bits(numbers[:n], from, to, true)
				Bits(numbers[n:], from, to, false)
				Bits(numbers[n:], from, to, true)
			}
		}
	}
	if !bytes.Equal(words[:cap(words)], wordsBefore) {
		t.Error("Encode has changed words")
	}
	if !bytes.Equal(numbers[:cap(numbers)], numbersBefore) {
		t.Error("Bits has changed numbers")
	}
}

// fill overwrites bytes, those behind their length too.
func fill(b []byte) {
	for i := range b[:cap(b)] {
		b[:cap(b)][i] = 0xee
	}
}

// within tells whether a begins in the memory of b.
func within(a, b string) bool {
	p, q := uintptr(unsafe.Pointer(unsafe.StringData(a))), uintptr(unsafe.Pointer(unsafe.StringData(b)))
	return p >= q && p < q+uintptr(len(b))
}

func TestP6_4NewMemory(t *testing.T) {
	words := allWords()
	s, _ := Encode("abc", words)
	again, _ := Encode("abc", words)
	want := laid("abc", words)
	if within(s, again) || within(again, s) {
		t.Error("two answers of Encode share memory")
	}
	fill(words)
	if s != want {
		t.Error("a text hangs on its words")
	}

	for _, s := range []string{want, strings.ToUpper(want), laid("a", allWords())} {
		head, one, _ := Decode(s)
		same, two, _ := Decode(s)
		if within(head, s) || within(head, same) {
			t.Errorf("the head of %s shares memory with it, or with another answer", s)
		}
		fill(one)
		if _, back, e := Decode(s); e != api.OK || !bytes.Equal(two, allWords()) || !bytes.Equal(back, allWords()) {
			t.Error("two answers of Decode share memory")
		}
	}

	for _, to := range []int{3, 5, 8} {
		b := unhex("a5 5a 0f")
		l, _ := Bits(b, 8, to, true)
		m, _ := Bits(b, 8, to, true)
		told := bytes.Clone(m)
		fill(l)
		if !bytes.Equal(b, unhex("a5 5a 0f")) || !bytes.Equal(m, told) {
			t.Errorf("numbers of %d bits share memory with what was handed in, or with another answer", to)
		}
		fill(b)
		if !bytes.Equal(m, told) {
			t.Errorf("numbers of %d bits hang on what was handed in", to)
		}
	}
}

func TestP6_5ThereAndBack(t *testing.T) {
	draw := rand.New(rand.NewSource(65))
	for i := range 20000 {
		head, words := drawnHead(draw), drawnWords(draw, draw.Intn(60))
		if i%1000 == 0 {
			words = drawnWords(draw, api.MaxMsg-len(head)-7)
		}
		s, e := Encode(head, words)
		if e != api.OK {
			t.Fatal(head, words, e)
		}
		if h, w, e := Decode(s); h != head || !bytes.Equal(w, words) || e != api.OK {
			t.Fatalf("Decode of what Encode tells of %s and %s: %s, %s, %v", head, short(words), h, short(w), e)
		}
		h, w, e := Decode(strings.ToUpper(s))
		if e != api.OK {
			t.Fatal(strings.ToUpper(s), e)
		}
		if back, e := Encode(h, w); back != s || e != api.OK {
			t.Fatalf("Encode of what Decode tells of %s in capital letters: %s, %v", short(s), short(back), e)
		}
	}
	for _, x := range knownTexts() {
		h, w, _ := Decode(strings.ToUpper(x.text))
		if back, e := Encode(h, w); back != x.text || e != api.OK {
			t.Errorf("Encode of what Decode tells of %s: %s, %v", x.text, back, e)
		}
	}
}

// refused asks that Decode takes no text that has another letter at a place of s.
func refused(t *testing.T, s string, at int) {
	t.Helper()
	for _, c := range alphabet {
		other := s[:at] + string(c) + s[at+1:]
		if h, w, e := Decode(other); other != s && (e != api.ErrSum || h != "" || len(w) != 0) {
			t.Fatalf("Decode of %s with %c at %d: %v", short(s), c, at, e)
		}
	}
}

func TestP6_5OneLetter(t *testing.T) {
	draw := rand.New(rand.NewSource(655))
	for _, x := range knownTexts() {
		for at := strings.LastIndexByte(x.text, '1') + 1; at < len(x.text); at++ {
			refused(t, x.text, at)
		}
	}
	for range 500 {
		s := laid(drawnHead(draw), drawnWords(draw, draw.Intn(200)))
		behind := strings.LastIndexByte(s, '1') + 1
		refused(t, s, behind+draw.Intn(len(s)-behind))
	}
	long := laid("lnsw", drawnWords(draw, api.MaxMsg-4-7))
	for _, at := range []int{5, 6, 1023, 5 + 1023, len(long) - 1024, len(long) - 7, len(long) - 6, len(long) - 1} {
		refused(t, long, at)
	}
	for range 30 {
		refused(t, long, 5+draw.Intn(len(long)-5))
	}
}

func TestP6_5BitsThereAndBack(t *testing.T) {
	draw := rand.New(rand.NewSource(656))
	for size := range 600 {
		b := make([]byte, size)
		draw.Read(b)
		words, e := Bits(b, 8, 5, true)
		if e != api.OK || len(words) != (8*size+4)/5 || len(words) > 0 && slices.Max(words) > 31 {
			t.Fatalf("Bits of % x, 8, 5, true: % x, %v", b, words, e)
		}
		if back, e := Bits(words, 5, 8, false); e != api.OK || !bytes.Equal(back, b) {
			t.Fatalf("% x, there and back: % x, %v", b, back, e)
		}
	}
	for from := 1; from <= 8; from++ {
		for to := 1; to <= from; to++ {
			for size := range 20 {
				b := make([]byte, size)
				for i := range b {
					b[i] = byte(draw.Intn(1 << from))
				}
				there, e := Bits(b, from, to, true)
				if e != api.OK {
					t.Fatalf("Bits of % x, %d, %d, true: %v", b, from, to, e)
				}
				if back, e := Bits(there, to, from, false); e != api.OK || !bytes.Equal(back, b) {
					t.Fatalf("% x, from %d bits to %d and back: % x, %v", b, from, to, back, e)
				}
			}
		}
	}
}
