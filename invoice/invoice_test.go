package invoice

import (
	"bytes"
	"crypto/sha256"
	"fmt"
	"math"
	"math/big"
	"math/rand"
	"regexp"
	"slices"
	"strconv"
	"strings"
	"testing"
	"unsafe"

	"sluiceway/api"
	"sluiceway/bech"
	"sluiceway/term"
)

// The model: what the chapter's words ask, by other means than the program's. Amounts are numbers without bounds, words are digits that the library writes or pieces of texts of 0 and 1, and words are an invoice's if what they seem to say is written just so.

const (
	long  = 1<<35 - 1
	delta = 1<<31 - 1
)

// told is the text of an amount that may be greater than all there are.
func told(msat *big.Int) string {
	tenths := new(big.Int).Mul(msat, big.NewInt(10)).String()
	if tenths == "0" {
		return ""
	}
	for _, u := range []struct{ noughts, letter string }{{"000000000000", ""}, {"000000000", "m"}, {"000000", "u"}, {"000", "n"}} {
		if n, ends := strings.CutSuffix(tenths, u.noughts); ends {
			return n + u.letter
		}
	}
	return tenths + "p"
}

var amountPattern = regexp.MustCompile(`\A([0-9]+)([munp]?)\z`)

// heard is what Read should answer.
func heard(s string) (int64, api.Errno) {
	if s == "" {
		return 0, api.OK
	}
	parts := amountPattern.FindStringSubmatch(s)
	if parts == nil {
		return 0, api.ErrInvoice
	}
	thousands := map[string]int{"p": 0, "n": 1, "u": 2, "m": 3, "": 4}[parts[2]]
	tenths, _ := new(big.Int).SetString(parts[1]+strings.Repeat("000", thousands), 10)
	msat := new(big.Int).Div(tenths, big.NewInt(10))
	if told(msat) != s {
		return 0, api.ErrInvoice
	}
	if msat.Cmp(big.NewInt(2100000000000000000)) > 0 {
		return 0, api.ErrMoney
	}
	return msat.Int64(), api.OK
}

// digits is the words of a number.
func digits(n int64) []byte {
	if n == 0 {
		return nil
	}
	l := []byte(strconv.FormatInt(n, 32))
	for i, c := range l {
		l[i] = byte(strings.IndexByte("0123456789abcdefghijklmnopqrstuv", c))
	}
	return l
}

// cut is the words of a text.
func cut(s string) []byte {
	var row strings.Builder
	for i := range len(s) {
		fmt.Fprintf(&row, "%08b", s[i])
	}
	bits := row.String() + "0000"
	var l []byte
	for ; len(bits) >= 5; bits = bits[5:] {
		n, _ := strconv.ParseUint(bits[:5], 2, 8)
		l = append(l, byte(n))
	}
	return l
}

// part is a field of any tag and words.
func part(tag byte, words []byte) []byte {
	return slices.Concat([]byte{tag, byte(len(words) / 32), byte(len(words) % 32)}, words)
}

// stamped is a Stamp's words.
func stamped(n int64) []byte {
	l := slices.Concat(make([]byte, 7), digits(n))
	return l[len(l)-7:]
}

// parts is the words of an invoice, and those of its Sig, in pieces.
func parts(x api.Invoice) [][]byte {
	return [][]byte{
		stamped(x.Stamp), part(1, cut(string(x.Hash))), part(19, cut(string(x.Payee))), part(13, cut(x.Memo)),
		part(6, digits(x.Expiry)), part(24, digits(int64(x.Delta))), part(16, cut(string(x.Sig))),
	}
}

func headed(x api.Invoice) string { return "lnsw" + told(big.NewInt(x.Amount)) }

// signs is what is signed of a head and words.
func signs(head string, words []byte) api.Term {
	return api.Term(fmt.Sprintf("t64:%x", sha256.Sum256(append([]byte(head), words...))))
}

func opOf(t api.Term) byte {
	p, _ := term.Open(t)
	return p.Op
}

// may tells whether an invoice may be.
func may(x api.Invoice) bool {
	in := func(n, most int64) bool { return 0 <= n && n <= most }
	short := len(x.Hash) < 640 && len(x.Payee) < 640 && len(x.Memo) < 640
	return short && in(x.Stamp, long) && in(x.Expiry, long) && in(int64(x.Delta), delta) && opOf(x.Hash) == 'H' && strings.IndexByte("PWL", opOf(x.Payee)) >= 0
}

// bodied, encoded, decoded are what Body, Encode, Decode should answer.
func bodied(x api.Invoice) (api.Term, api.Errno) {
	if x.Amount < 0 || x.Amount > 2100000000000000000 {
		return "", api.ErrMoney
	}
	if !may(x) {
		return "", api.ErrInvoice
	}
	return signs(headed(x), slices.Concat(parts(x)[:6]...)), api.OK
}

func encoded(x api.Invoice) (string, api.Errno) {
	body, e := bodied(x)
	if e != api.OK {
		return "", e
	}
	if len(x.Sig) > 639 || !term.Verify(x.Payee, body, x.Sig) {
		return "", api.ErrSigned
	}
	return bech.Encode(headed(x), slices.Concat(parts(x)...))
}

func decoded(s string) (api.Invoice, api.Errno) {
	head, words, e := bech.Decode(s)
	if e != api.OK {
		return api.Invoice{}, e
	}
	if !strings.HasPrefix(head, "lnsw") {
		return api.Invoice{}, api.ErrInvoice
	}
	amount, e := heard(head[4:])
	if e != api.OK {
		return api.Invoice{}, e
	}
	x := guessed(words)
	x.Amount = amount
	if !may(x) || !bytes.Equal(words, slices.Concat(parts(x)...)) {
		return api.Invoice{}, api.ErrInvoice
	}
	if !term.Verify(x.Payee, signs(head, slices.Concat(parts(x)[:6]...)), x.Sig) {
		return api.Invoice{}, api.ErrSigned
	}
	return x, api.OK
}

// guessed is what words seem to say, whatever they are: fields by their tags, what is wrong passed over.
func guessed(words []byte) api.Invoice {
	var x api.Invoice
	words = append(slices.Clone(words), make([]byte, 8)...)
	number := func(l []byte) int64 {
		n := new(big.Int)
		for _, w := range l {
			n.Add(n.Mul(n, big.NewInt(32)), big.NewInt(int64(w)))
		}
		if !n.IsInt64() {
			return -1
		}
		return n.Int64()
	}
	x.Stamp = number(words[:7])
	for words = words[7:]; len(words) >= 3; {
		size := min(3+int(words[1])*32+int(words[2]), len(words))
		body := words[3:size]
		text := uncut(body)
		switch words[0] {
		case 1:
			x.Hash = api.Term(text)
		case 19:
			x.Payee = api.Term(text)
		case 13:
			x.Memo = text
		case 6:
			x.Expiry = number(body)
		case 24:
			x.Delta = int(number(body))
		case 16:
			x.Sig = api.Term(text)
		}
		words = words[size:]
	}
	return x
}

// uncut is the whole bytes of words.
func uncut(words []byte) string {
	var row strings.Builder
	for _, w := range words {
		fmt.Fprintf(&row, "%05b", w)
	}
	var l []byte
	for bits := row.String(); len(bits) >= 8; bits = bits[8:] {
		n, _ := strconv.ParseUint(bits[:8], 2, 8)
		l = append(l, byte(n))
	}
	return string(l)
}

// short is what is shown of a thing.
func short(v any) string {
	s := fmt.Sprintf("%q", fmt.Sprint(v))
	if len(s) > 300 {
		return s[:300] + ".."
	}
	return s
}

func checkRead(t *testing.T, s string) {
	t.Helper()
	n, e := Read(s)
	if want, wantE := heard(s); n != want || e != wantE {
		t.Fatalf("Read of %s: %d, %v; want %d, %v", short(s), n, e, want, wantE)
	}
}

func checkBody(t *testing.T, x api.Invoice) {
	t.Helper()
	b, e := Body(x)
	if want, wantE := bodied(x); b != want || e != wantE {
		t.Fatalf("Body of %s: %s, %v; want %s, %v", short(x), b, e, want, wantE)
	}
}

func checkEncode(t *testing.T, x api.Invoice) {
	t.Helper()
	s, e := Encode(x)
	if want, wantE := encoded(x); s != want || e != wantE {
		t.Fatalf("Encode of %s: %s, %v; want %s, %v", short(x), short(s), e, short(want), wantE)
	}
}

func checkDecode(t *testing.T, s string) {
	t.Helper()
	x, e := Decode(s)
	if want, wantE := decoded(s); x != want || e != wantE {
		t.Fatalf("Decode of %s: %s, %v; want %s, %v", short(s), short(x), e, short(want), wantE)
	}
}

// readsTo, bodiesTo, encodesTo, decodesTo ask for an error, and for nothing beside it.
func readsTo(t *testing.T, want api.Errno, s string) {
	t.Helper()
	if n, e := Read(s); e != want || e != api.OK && n != 0 {
		t.Errorf("Read of %s: %d, %v; want %v", short(s), n, e, want)
	}
	checkRead(t, s)
}

func bodiesTo(t *testing.T, want api.Errno, x api.Invoice) {
	t.Helper()
	if b, e := Body(x); e != want || e != api.OK && b != "" {
		t.Errorf("Body of %s: %s, %v; want %v", short(x), b, e, want)
	}
	checkBody(t, x)
}

func encodesTo(t *testing.T, want api.Errno, x api.Invoice) {
	t.Helper()
	if s, e := Encode(x); e != want || e != api.OK && s != "" {
		t.Errorf("Encode of %s: %s, %v; want %v", short(x), short(s), e, want)
	}
	checkEncode(t, x)
}

func decodesTo(t *testing.T, want api.Errno, s string) {
	t.Helper()
	if x, e := Decode(s); e != want || e != api.OK && x != (api.Invoice{}) {
		t.Errorf("Decode of %s: %s, %v; want %v", short(s), short(x), e, want)
	}
	checkDecode(t, s)
}

// signed is x with the Sig of a secret.
func signed(x api.Invoice, secret api.Term) api.Invoice {
	body, _ := bodied(x)
	x.Sig, _ = term.Sign(secret, body)
	return x
}

// tea is an invoice that is signed.
func tea() api.Invoice {
	return signed(api.Invoice{Amount: 250000000, Stamp: 1700000000, Hash: "Hn7;", Payee: "Pn5;", Memo: "tea", Expiry: 3600, Delta: 40}, "n5;")
}

// spelt is the text of any head and pieces of words.
func spelt(head string, pieces ...[]byte) string {
	s, e := bech.Encode(head, slices.Concat(pieces...))
	if e != api.OK {
		panic(e)
	}
	return s
}

// resigned is the text of a head and pieces, with a right Sig of n5; over just these words: whatever is wrong with them, it is not the Sig.
func resigned(head string, pieces ...[]byte) string {
	sig, _ := term.Sign("n5;", signs(head, slices.Concat(pieces...)))
	return spelt(head, slices.Concat(pieces...), part(16, cut(string(sig))))
}

// textTerm is the term of a text that has so many bytes in all, of three digits.
func textTerm(size int) api.Term {
	t := api.Term(fmt.Sprintf("t%d:%s", size-5, strings.Repeat("x", size-5)))
	if len(t) != size || !term.Right(t) {
		panic(t)
	}
	return t
}

// nested is a term so deep, and of this op at least twice.
func nested(op string, deep int) api.Term {
	return api.Term(strings.Repeat(op, deep-1) + "n1;")
}

func TestP7_1AmountExamples(t *testing.T) {
	for _, x := range []struct {
		msat int64
		want string
		e    api.Errno
	}{
		{-1, "", api.ErrMoney}, {0, "", api.OK}, {1, "10p", api.OK}, {2, "20p", api.OK}, {10, "100p", api.OK},
		{99, "990p", api.OK}, {100, "1n", api.OK}, {101, "1010p", api.OK}, {110, "1100p", api.OK}, {200, "2n", api.OK}, {1000, "10n", api.OK}, {10000, "100n", api.OK},
		{99900, "999n", api.OK}, {99999, "999990p", api.OK}, {100000, "1u", api.OK}, {100001, "1000010p", api.OK}, {100100, "1001n", api.OK},
		{99900000, "999u", api.OK}, {99999999, "999999990p", api.OK}, {100000000, "1m", api.OK}, {100000001, "1000000010p", api.OK}, {100100000, "1001u", api.OK},
		{99900000000, "999m", api.OK}, {99999999999, "999999999990p", api.OK}, {100000000000, "1", api.OK}, {100000000001, "1000000000010p", api.OK}, {100100000000, "1001m", api.OK},
		{250000000, "2500u", api.OK}, {123456, "1234560p", api.OK}, {2500000000, "25m", api.OK}, {1000000000000, "10", api.OK}, {100000000000000, "1000", api.OK},
		{api.MaxMoney, "21000000", api.OK}, {api.MaxMoney - 1, "20999999999999999990p", api.OK}, {api.MaxMoney - 100, "20999999999999999n", api.OK},
		{api.MaxMoney - 100000, "20999999999999u", api.OK}, {api.MaxMoney - 100000000, "20999999999m", api.OK}, {api.MaxMoney - 100000000000, "20999999", api.OK},
		{api.MaxMoney + 1, "", api.ErrMoney}, {api.MaxMoney + 100000000000, "", api.ErrMoney}, {math.MaxInt64, "", api.ErrMoney}, {math.MinInt64, "", api.ErrMoney}, {-100000000000, "", api.ErrMoney}, {-100, "", api.ErrMoney},
	} {
		if s, e := Amount(x.msat); s != x.want || e != x.e {
			t.Errorf("Amount of %d: %q, %v; want %q, %v", x.msat, s, e, x.want, x.e)
		}
		if x.e == api.OK {
			if n, e := Read(x.want); n != x.msat || e != api.OK {
				t.Errorf("Read of %q: %d, %v; want %d", x.want, n, e, x.msat)
			}
			checkRead(t, x.want)
		}
	}
}

func TestP7_1ReadExamples(t *testing.T) {
	for s, want := range map[string]int64{"": 0, "2500u": 250000000, "25m": 2500000000, "1": 100000000000, "10": 1000000000000, "21000000": api.MaxMoney, "10p": 1, "990p": 99, "1n": 100, "100n": 10000, "999999n": 99999900, "1100p": 110} {
		if n, e := Read(s); n != want || e != api.OK {
			t.Errorf("Read of %q: %d, %v; want %d", s, n, e, want)
		}
		checkRead(t, s)
	}
	for _, s := range []string{"25000u", "2500000n", "15p", "01", "0", "u"} {
		readsTo(t, api.ErrInvoice, s)
	}
	readsTo(t, api.ErrMoney, "21000001")
}

func TestP7_1NoAmounts(t *testing.T) {
	for kind, l := range map[string][]string{
		"a greater unit goes into it": {"1000m", "1000u", "1000n", "1000p", "2000m", "12000u", "123000n", "123000p", "1000000u", "1000000m", "10000p", "1000000000p", "100000000000000000000000000000m", "1" + strings.Repeat("0", 4000) + "u", "9000p"},
		"noughts ahead":               {"01", "001", "00", "000", "0000000001", "01m", "0250u", "01n", "010p", "0010p", "00p", "000p", "0" + strings.Repeat("9", 100), "00m"},
		"of nothing":                  {"0", "0m", "0u", "0n", "0p"},
		"no digits":                   {"m", "u", "n", "p", "mm", "pp", " ", "-", "+", "\x00", "é"},
		"no unit":                     {"1k", "1x", "1M", "1U", "1N", "1P", "10P", "2500U", "1 ", " 1", "1\n", "1\x00", "1\xff", "1µ", "25é", "1q", "1l", "1a", "1o", "1t", "10pp", "1mm", "1um", "1mu", "10pn", "1n0p", "m1", "u2500", "p10"},
		"p without a nought":          {"1p", "2p", "9p", "15p", "11p", "101p", "1001p", "12345p", "9999999999999999999999999999p"},
		"no plain digits":             {"+1", "-1", "-10p", "+2500u", "1_000", "1,5m", "1.5m", "1e3", "0x10", "0b1", "1/2", "1:", "1-", "1 0", "１", "٣", "1m1", "1p0", "½", "1\x2f1", "1\x3a1", "1\x001", "10\x00p"},
	} {
		for _, s := range l {
			if n, e := Read(s); n != 0 || e != api.ErrInvoice {
				t.Errorf("%s: Read of %s: %d, %v", kind, short(s), n, e)
			}
			checkRead(t, s)
		}
	}
	for c := range 256 {
		for _, s := range []string{"", "2", "20", "25", "123"} {
			checkRead(t, s+string([]byte{byte(c)}))
			checkRead(t, string([]byte{byte(c)})+s)
			checkRead(t, s+string([]byte{byte(c)})+"0p")
			checkRead(t, s+string([]byte{byte(c)})+"1")
		}
	}
}

func TestP7_1TooGreat(t *testing.T) {
	nines := strings.Repeat("9", 4000)
	for _, s := range []string{
		"21000001", "21000001000", "21000000001m", "21000000000001u", "21000000000000001n", "21000000000000000010p", "21000000000000000020p",
		"92233721", "92233720368547759", "92233720368547758071", "184467441", "184467440737", "92233720369m", "92233720368548u", "92233720368547759n", "92233720368547758080p",
		"9223372036854775807", "9223372036854775808", "18446744073709551615", "18446744073709551616", "9223372036854775807m", "9223372036854775808m", "9223372036854775807u", "9223372036854775809u", "9223372036854775807n", "18446744073709551616n",
		"92233720368547758070p", "184467440737095516150p", "184467440737095516160p", "18446744073709551617", "18446744073709551617m", "184467440737095516170p", "184467440737095517n", "184467440737096u", "340282366920938463463374607431768211456", "340282366920938463463374607431768211457m",
		nines, nines + "m", nines + "u", nines + "n", nines + "0p", "1" + strings.Repeat("0", 4000), "1" + strings.Repeat("0", 4000) + "1u", nines + "00m", nines + "0n",
	} {
		readsTo(t, api.ErrMoney, s)
	}
	for _, s := range []string{nines + "p", nines + "000m", nines + "000u", nines + "000n", nines + "000p", "0" + nines, nines + "x", nines + "M", nines + "0pp", "21000000000m", "21000000000000u", "21000001000m", "21000000000000000000p", "92233720368547758071p"} {
		readsTo(t, api.ErrInvoice, s)
	}
}

func TestP7_1Drawn(t *testing.T) {
	draw := rand.New(rand.NewSource(71))
	for range 40000 {
		b := make([]byte, draw.Intn(10))
		for i := range b {
			b[i] = "0000123456789"[draw.Intn(13)]
		}
		if draw.Intn(8) == 0 {
			b = append(b, bytes.Repeat([]byte{'0', '7'}, draw.Intn(12))...)
		}
		checkRead(t, string(b)+[]string{"", "m", "u", "n", "p", "0p", "00p", "000", "000m", "00n", "k"}[draw.Intn(11)])
	}
	for range 40000 {
		b := make([]byte, draw.Intn(6))
		for i := range b {
			b[i] = "0012munpMUNP +-_"[draw.Intn(16)]
		}
		checkRead(t, string(b))
	}
	for range 40000 {
		n := draw.Int63n(api.MaxMoney+1) >> draw.Intn(61)
		for range draw.Intn(12) {
			n -= n % int64(math.Pow10(draw.Intn(12)))
		}
		s, e := Amount(n)
		if s != told(big.NewInt(n)) || e != api.OK {
			t.Fatalf("Amount of %d: %s, %v", n, s, e)
		}
		if back, e := Read(s); back != n || e != api.OK {
			t.Fatalf("Read of %s: %d, %v; want %d", s, back, e, n)
		}
		if s, e := Amount(-1 - n); s != "" || e != api.ErrMoney {
			t.Fatalf("Amount of %d: %s, %v", -1-n, s, e)
		}
	}
}

// An example is an invoice that another program has written out: what is signed of it, and its text.
type example struct {
	x      api.Invoice
	secret api.Term
	body   api.Term
	text   string
}

func examples() []example {
	return []example{
		{api.Invoice{Amount: 250000000, Stamp: 1700000000, Hash: "Hn7;", Payee: "Pn5;", Memo: "tea", Expiry: 3600, Delta: 40}, "n5;",
			"t64:3eb92c450fecf8b0d698c6daf6e8db25ef6fd3568e1681c9b0cccf396607ef0e",
			"lnsw2500u1pj48ugqpq8fphrwwcnq82phr2wcdq9w3jkzxqrrsscqzpgsr52dhr2wm5xc6r5vm9vgunyce5x5cxvetrvcuxyvryxcunscekv3skvdn98pjxyv34v4nrvenyxv6nvwr9xymrsvtr893rqcmrvdnrxwfkxccrwetxxpjsw38pdp"},
		{api.Invoice{Hash: "Hn1;", Payee: "Pn2;"}, "n2;",
			"t64:8be71822d2506028c9e262a81d4abd7655ee391eb4017d8e348e3b92b315bdde",
			"lnsw1qqqqqqqpq8fphrzwcnq82phrywcdqqxqqcqqsr52dhrywm5xc6r5wrzv5mnzwpjxfjrydfsxccrywrr89jnyd3jvyurzep5v93xgdekx56k2efn8yck2c35xqcnwepcv5engwr9xd3rjvnzxvcn2cnyv3js0d93yc"},
		{api.Invoice{Amount: 100000000000, Stamp: long, Hash: "Ht1:x", Payee: "WPn1;Pn2;", Memo: "1", Expiry: long, Delta: delta}, "Vn1;n2;",
			"t64:80459cc9eb00b3127fe71cf538cf2c9db751febe42dbc7e40a53b96dc6597301",
			"lnsw11lllllllpqgfp6rzwncnq02agxuvfm2phrywcdqzxyxq8lllllllcq8pllllllsr62dtxuvfmdcerkapkxsarsvp5x5ukxceev43rqvrzxvcnydmxv5mnzcmxx5enscmxxf3njerzxu6nzen9vfjngvnyvf3nwef5xpsn2vmz8ymxgcekx5unwvesxylz0356"},
		{api.Invoice{Amount: 1, Stamp: 1, Hash: "HHT0:", Payee: "LPn3;t2:ab", Memo: "a\x00\xff", Expiry: 31, Delta: 32}, "Kn3;t2:ab",
			"t64:9ae7f1f32bf2a2fac454775d57a3742e5a9ca87253c7db13ca1e318938c04735",
			"lnsw10p1qqqqqqppqgfpy9gvp6nqsf3gxuvemwser5ctzdq9vyq07xqplcqzpqsra2d9kuvemwser5ctzwsmrgw3ev9jnwe33vcenycnxxfsnyenpvv6r2dphxu6kgdfhvyenwdpjv56kzwtrvyurwv34xd3nwerzxyekxcf3v5enzwpexvuxxvp5xuen2amxk8g"},
		{api.Invoice{Amount: 2100000000000000000, Stamp: 32, Hash: "HPn9;", Payee: "PT1:n1;", Memo: "café", Expiry: 1, Delta: 1}, "T1:n1;",
			"t64:59f924ea4ca8bd5b414170c7a316258f2da178723ecd1cd00ce2ccdc499a446e",
			"lnsw210000001qqqqqpqpqgfpgxuwfmnqv2p2rzwnwxyasdqgvdskdsafxqppcqppsrc2d2rzwnwxyahgd358g6nje3exg6x2cf5vdsnscnyx43rgvf5xymnqcehvyenzd3jx5uxvvnyvycnwwphxgek2cmyx93kgvpsvdjnycmrv33ngwfevy6rgdn9pfsjuz"},
	}
}

func TestP7_2BodyExamples(t *testing.T) {
	for _, x := range examples() {
		if b, e := Body(x.x); b != x.body || e != api.OK {
			t.Errorf("Body of %s: %s, %v; want %s", short(x.x), b, e, x.body)
		}
		checkBody(t, x.x)
	}
}

func TestP7_2Numbers(t *testing.T) {
	for n, want := range map[int64]api.Errno{-1: api.ErrMoney, 0: api.OK, 1: api.OK, 100: api.OK, 99: api.OK, api.MaxMoney: api.OK, api.MaxMoney + 1: api.ErrMoney, math.MaxInt64: api.ErrMoney, math.MinInt64: api.ErrMoney} {
		x := tea()
		x.Amount = n
		bodiesTo(t, want, x)
	}
	for n, want := range map[int64]api.Errno{math.MinInt64: api.ErrInvoice, -1 << 35: api.ErrInvoice, -1: api.ErrInvoice, 0: api.OK, 1: api.OK, 31: api.OK, 32: api.OK, 1 << 31: api.OK, long - 1: api.OK, long: api.OK, long + 1: api.ErrInvoice, 1 << 36: api.ErrInvoice, math.MaxInt64: api.ErrInvoice} {
		x := tea()
		x.Stamp = n
		bodiesTo(t, want, x)
		x = tea()
		x.Expiry = n
		bodiesTo(t, want, x)
	}
	for n, want := range map[int]api.Errno{math.MinInt: api.ErrInvoice, -1: api.ErrInvoice, 0: api.OK, 1: api.OK, 31: api.OK, 32: api.OK, delta - 1: api.OK, delta: api.OK, delta + 1: api.ErrInvoice, 1 << 32: api.ErrInvoice, 1<<32 + 1: api.ErrInvoice, long: api.ErrInvoice, math.MaxInt: api.ErrInvoice} {
		x := tea()
		x.Delta = n
		bodiesTo(t, want, x)
	}
}

// hashes and payees tell which terms may be.
func hashes() map[api.Term]api.Errno {
	return map[api.Term]api.Errno{
		"": api.ErrInvoice, "n7;": api.ErrInvoice, "Pn7;": api.ErrInvoice, "t1:H": api.ErrInvoice, "T1:Hn7;": api.ErrInvoice, "Sn1;Hn2;": api.ErrInvoice, "Bn1;n2;": api.ErrInvoice, "Xn1;n2;": api.ErrInvoice, "Dn1;n2;": api.ErrInvoice, "Vn1;n2;": api.ErrInvoice, "WPn1;Pn2;": api.ErrInvoice, "Kn1;n2;": api.ErrInvoice, "LPn1;n2;": api.ErrInvoice,
		"H": api.ErrInvoice, "Hn7": api.ErrInvoice, "Hn07;": api.ErrInvoice, "Hn7;;": api.ErrInvoice, "Hn7;n8;": api.ErrInvoice, "HPVn1;n2;": api.ErrInvoice, "HXn2;n1;": api.ErrInvoice, " Hn7;": api.ErrInvoice, "hn7;": api.ErrInvoice, "H\x00": api.ErrInvoice, "Hn9223372036854775808;": api.ErrInvoice,
		"Hn7;": api.OK, "HHn7;": api.OK, "HPn7;": api.OK, "Ht0:": api.OK, "HT2:n1;Hn2;": api.OK, "HVn1;n2;": api.OK, "Hn9223372036854775807;": api.OK,
		"H" + textTerm(637): api.OK, "H" + textTerm(638): api.OK, "H" + textTerm(639): api.ErrInvoice, "H" + textTerm(640): api.ErrInvoice, api.Term("Ht4096:" + strings.Repeat("x", 4096)): api.ErrInvoice, api.Term(strings.Repeat("H", 20000)): api.ErrInvoice, api.Term("H" + strings.Repeat("n", 638)): api.ErrInvoice,
		nested("H", 63): api.OK, nested("H", 64): api.OK, nested("H", 65): api.ErrInvoice,
	}
}

func payees() map[api.Term]api.Errno {
	return map[api.Term]api.Errno{
		"": api.ErrInvoice, "n7;": api.ErrInvoice, "Hn7;": api.ErrInvoice, "t1:P": api.ErrInvoice, "T1:Pn7;": api.ErrInvoice, "Sn1;Pn2;": api.ErrInvoice, "Bn1;n2;": api.ErrInvoice, "Xn1;n2;": api.ErrInvoice, "Dn1;n2;": api.ErrInvoice, "Vn1;n2;": api.ErrInvoice, "Kn1;n2;": api.ErrInvoice, "VPn1;Pn2;": api.ErrInvoice,
		"P": api.ErrInvoice, "W": api.ErrInvoice, "L": api.ErrInvoice, "Pn07;": api.ErrInvoice, "Pn7;;": api.ErrInvoice, "PVn1;n2;": api.ErrInvoice, "PKn1;n2;": api.ErrInvoice, "Wn1;Pn2;": api.ErrInvoice, "WPn1;n2;": api.ErrInvoice, "Ln1;n2;": api.ErrInvoice, "WPn1;": api.ErrInvoice, "pn7;": api.ErrInvoice, "Pn7;Pn8;": api.ErrInvoice,
		"Pn7;": api.OK, "PPn7;": api.OK, "PHn7;": api.OK, "WPn1;Pn2;": api.OK, "WWPn1;Pn2;Pn3;": api.OK, "LPn1;n2;": api.OK, "LWPn1;Pn2;t0:": api.OK, "WLPn1;n2;Pn2;": api.OK, "PT0:": api.OK,
		"P" + textTerm(637): api.OK, "P" + textTerm(638): api.OK, "P" + textTerm(639): api.ErrInvoice, "P" + textTerm(640): api.ErrInvoice,
		"LPn1;" + textTerm(634): api.OK, "LPn1;" + textTerm(635): api.ErrInvoice, "WPn1;P" + textTerm(633): api.OK, "WPn1;P" + textTerm(634): api.ErrInvoice, api.Term(strings.Repeat("P", 20000)): api.ErrInvoice,
		nested("P", 64): api.OK, nested("P", 65): api.ErrInvoice,
	}
}

func TestP7_2Terms(t *testing.T) {
	for h, want := range hashes() {
		x := tea()
		x.Hash = h
		bodiesTo(t, want, x)
	}
	for p, want := range payees() {
		x := tea()
		x.Payee = p
		bodiesTo(t, want, x)
	}
}

// memos tells which texts may be.
func memos() map[string]api.Errno {
	return map[string]api.Errno{
		"": api.OK, "1": api.OK, "12345": api.OK, "\x00": api.OK, "\xff\xfe": api.OK, "é": api.OK, strings.Repeat("y", 638): api.OK, strings.Repeat("y", 639): api.OK, strings.Repeat("\xff", 639): api.OK, strings.Repeat("\x00", 639): api.OK,
		strings.Repeat("y", 640): api.ErrInvoice, strings.Repeat("\x00", 640): api.ErrInvoice, strings.Repeat("y", 641): api.ErrInvoice, strings.Repeat("é", 320): api.ErrInvoice, strings.Repeat("y", 100000): api.ErrInvoice,
	}
}

func TestP7_2Memos(t *testing.T) {
	for m, want := range memos() {
		x := tea()
		x.Memo = m
		bodiesTo(t, want, x)
	}
}

func TestP7_2SigDoesNotCount(t *testing.T) {
	want, _ := Body(tea())
	for _, sig := range []api.Term{"", "n1;", "no term", "Sn5;t1:x", textTerm(639), textTerm(640), api.Term(strings.Repeat("S", 100000))} {
		x := tea()
		x.Sig = sig
		if b, e := Body(x); b != want || e != api.OK {
			t.Errorf("Body with the Sig %s: %s, %v", short(sig), b, e)
		}
	}
}

// TestP7_2AllElseCounts: two invoices that differ elsewhere sign unlike bodies.
func TestP7_2AllElseCounts(t *testing.T) {
	seen := map[api.Term]string{}
	for name, change := range map[string]func(*api.Invoice){
		"nothing": func(x *api.Invoice) {}, "Amount": func(x *api.Invoice) { x.Amount++ }, "no Amount": func(x *api.Invoice) { x.Amount = 0 }, "Stamp": func(x *api.Invoice) { x.Stamp++ }, "Hash": func(x *api.Invoice) { x.Hash = "Hn8;" }, "Payee": func(x *api.Invoice) { x.Payee = "Pn6;" },
		"Memo": func(x *api.Invoice) { x.Memo += "\x00" }, "no Memo": func(x *api.Invoice) { x.Memo = "" }, "Expiry": func(x *api.Invoice) { x.Expiry++ }, "Delta": func(x *api.Invoice) { x.Delta++ }, "Expiry and Delta": func(x *api.Invoice) { x.Expiry, x.Delta = 40, 3600 },
	} {
		x := tea()
		change(&x)
		b, e := Body(x)
		if e != api.OK || seen[b] != "" {
			t.Errorf("Body with another %s: %s, %v; it is that of %s", name, b, e, seen[b])
		}
		seen[b] = name
		if parts, right := term.Open(b); !right || parts.Op != api.OpText || len(parts.Text) != 64 {
			t.Errorf("Body with another %s: %s", name, b)
		}
	}
}

// wrongs is what makes an invoice one that may not be.
func wrongs() map[string]func(*api.Invoice) {
	return map[string]func(*api.Invoice){
		"Stamp": func(x *api.Invoice) { x.Stamp = -1 }, "Hash": func(x *api.Invoice) { x.Hash = "n7;" }, "Payee": func(x *api.Invoice) { x.Payee = "n5;" },
		"Memo": func(x *api.Invoice) { x.Memo = strings.Repeat("m", 640) }, "Expiry": func(x *api.Invoice) { x.Expiry = 1 << 35 }, "Delta": func(x *api.Invoice) { x.Delta = -1 },
	}
}

func TestP7_2FirstError(t *testing.T) {
	for name, spoil := range wrongs() {
		x := tea()
		spoil(&x)
		if b, e := Body(x); b != "" || e != api.ErrInvoice {
			t.Errorf("Body with a wrong %s: %s, %v", name, b, e)
		}
		for _, n := range []int64{-1, api.MaxMoney + 1, math.MinInt64} {
			x.Amount = n
			if b, e := Body(x); b != "" || e != api.ErrMoney {
				t.Errorf("Body with a wrong %s and the Amount %d: %s, %v", name, n, b, e)
			}
		}
	}
	bodiesTo(t, api.ErrInvoice, api.Invoice{})
}

func TestP7_3EncodeExamples(t *testing.T) {
	for _, x := range examples() {
		x.x.Sig = "S" + x.secret + x.body
		if s, e := Encode(x.x); s != x.text || e != api.OK {
			t.Errorf("Encode of %s: %s, %v; want %s", short(x.x), s, e, x.text)
		}
		checkEncode(t, x.x)
	}
}

func TestP7_3Signatures(t *testing.T) {
	body, _ := Body(tea())
	other := tea()
	other.Memo = "coffee"
	otherBody, _ := Body(other)
	for sig, want := range map[api.Term]api.Errno{
		"Sn5;" + body: api.OK,
		"":            api.ErrSigned, "Sn6;" + body: api.ErrSigned, "SPn5;" + body: api.ErrSigned, "Sn5;" + otherBody: api.ErrSigned, "Sn5;H" + body: api.ErrSigned, "Sn5;t0:": api.ErrSigned, body: api.ErrSigned, "n5;": api.ErrSigned, "Pn5;": api.ErrSigned,
		"Bn5;" + body: api.ErrSigned, "HSn5;" + body: api.ErrSigned, "Sn5;" + body + "n1;": api.ErrSigned, "Sn05;" + body: api.ErrSigned, "S" + body + "n5;": api.ErrSigned, "T1:Sn5;" + body: api.ErrSigned, ("Sn5;" + body)[:70]: api.ErrSigned, " Sn5;" + body: api.ErrSigned, "SVn5;n5;" + body: api.ErrSigned,
		api.Term(strings.Repeat("S", 639)): api.ErrSigned, api.Term(strings.Repeat("S", 1<<20)): api.ErrSigned,
	} {
		x := tea()
		x.Sig = sig
		encodesTo(t, want, x)
	}
	for name, change := range map[string]func(*api.Invoice){
		"Amount": func(x *api.Invoice) { x.Amount++ }, "Stamp": func(x *api.Invoice) { x.Stamp++ }, "Hash": func(x *api.Invoice) { x.Hash = "Hn8;" }, "Payee": func(x *api.Invoice) { x.Payee = "Pn6;" }, "Memo": func(x *api.Invoice) { x.Memo = "teas" }, "Expiry": func(x *api.Invoice) { x.Expiry-- }, "Delta": func(x *api.Invoice) { x.Delta++ },
	} {
		x := tea()
		change(&x)
		if s, e := Encode(x); s != "" || e != api.ErrSigned {
			t.Errorf("Encode with another %s than was signed: %s, %v", name, s, e)
		}
	}
}

// keyed is tea of a payee whose secret it is, signed by it.
func keyed(secret api.Term) api.Invoice {
	x := tea()
	x.Payee, _ = term.Pub(secret)
	return signed(x, secret)
}

func TestP7_3LongSignatures(t *testing.T) {
	for _, x := range []struct {
		secret api.Term
		size   int
		want   api.Errno
	}{
		{textTerm(569), 638, api.OK}, {textTerm(570), 639, api.OK}, {textTerm(571), 640, api.ErrSigned}, {textTerm(572), 641, api.ErrSigned}, {textTerm(638), 707, api.ErrSigned},
		{"Kn1;" + textTerm(566), 639, api.OK}, {"Kn1;" + textTerm(567), 640, api.ErrSigned}, {"Vn1;" + textTerm(566), 639, api.OK}, {"Vn1;" + textTerm(567), 640, api.ErrSigned},
	} {
		y := keyed(x.secret)
		if body, _ := bodied(y); len(y.Sig) != x.size || !term.Verify(y.Payee, body, y.Sig) {
			t.Fatalf("the Sig has %d bytes", len(y.Sig))
		}
		encodesTo(t, x.want, y)
		if s, e := Encode(y); e == api.OK {
			decodesTo(t, api.OK, s)
		}
	}
}

func TestP7_3FirstError(t *testing.T) {
	for name, spoil := range wrongs() {
		for _, sig := range []api.Term{tea().Sig, "", "n1;", textTerm(640)} {
			x := tea()
			spoil(&x)
			x.Sig = sig
			if s, e := Encode(x); s != "" || e != api.ErrInvoice {
				t.Errorf("Encode with a wrong %s and the Sig %s: %s, %v", name, short(sig), s, e)
			}
			x.Amount = api.MaxMoney + 1
			if s, e := Encode(x); s != "" || e != api.ErrMoney {
				t.Errorf("Encode with a wrong %s, a wrong Amount and the Sig %s: %s, %v", name, short(sig), s, e)
			}
		}
	}
	x := tea()
	x.Amount, x.Sig = -1, ""
	encodesTo(t, api.ErrMoney, x)
	x = tea()
	x.Hash = "n7;"
	encodesTo(t, api.ErrInvoice, x)
	encodesTo(t, api.ErrInvoice, api.Invoice{})
}

// TestP7_3Edges: Body's edges, each signed anew, there and back.
func TestP7_3Edges(t *testing.T) {
	there := func(want api.Errno, x api.Invoice) {
		t.Helper()
		encodesTo(t, want, x)
		if s, e := Encode(x); e == api.OK {
			if back, e := Decode(s); back != x || e != api.OK {
				t.Errorf("Decode of the text of %s: %s, %v", short(x), short(back), e)
			}
		}
	}
	for h, want := range hashes() {
		x := tea()
		x.Hash = h
		there(want, signed(x, "n5;"))
	}
	for m, want := range memos() {
		x := tea()
		x.Memo = m
		there(want, signed(x, "n5;"))
	}
	for _, n := range []int64{0, 1, 31, 32, 33, 1023, 1024, 1 << 20, 1<<30 - 1, 1 << 30, 1<<31 - 1, 1 << 31, long - 1, long} {
		x := tea()
		x.Stamp, x.Expiry, x.Delta = n, long-n, int(n&delta)
		there(api.OK, signed(x, "n5;"))
	}
	for _, n := range []int64{0, 1, 99, 100, 99999, 100000, 99999999, 100000000, 99999999999, 100000000000, api.MaxMoney - 1, api.MaxMoney} {
		x := tea()
		x.Amount = n
		there(api.OK, signed(x, "n5;"))
	}
}

func TestP7_4DecodeExamples(t *testing.T) {
	for _, x := range examples() {
		x.x.Sig = "S" + x.secret + x.body
		for _, s := range []string{x.text, strings.ToUpper(x.text)} {
			if got, e := Decode(s); got != x.x || e != api.OK {
				t.Errorf("Decode of %s: %s, %v; want %s", s, short(got), e, short(x.x))
			}
			checkDecode(t, s)
		}
	}
}

func TestP7_4NoBech(t *testing.T) {
	s, _ := Encode(tea())
	for text, want := range map[string]api.Errno{
		"": api.ErrBech, "lnsw": api.ErrBech, "lnsw1": api.ErrBech, "1": api.ErrBech, "1qqqqqq": api.ErrBech, s + "b": api.ErrBech, s[:len(s)-1] + "b": api.ErrBech, s[:len(s)-1] + "\x80": api.ErrBech, " " + s: api.ErrBech, s + "\n": api.ErrBech, "L" + s[1:]: api.ErrBech, s[:len(s)-1] + "P" + s[len(s):]: api.ErrBech,
		"lnsw2500u" + s[10:]: api.ErrBech, strings.Repeat("q", 84) + s: api.ErrBech,
		s + "q": api.ErrSum, s[:len(s)-1]: api.ErrSum, s[1:]: api.ErrSum, "lnsw2501u" + s[9:]: api.ErrSum, "lnsw1" + s[10:]: api.ErrSum, "lnsw1qqqqqq": api.ErrSum, "x1qqqqqq": api.ErrSum,
		s + strings.Repeat("q", api.MaxMsg): api.ErrLimit, strings.Repeat("\x00", api.MaxMsg+1): api.ErrLimit, spelt("lnsw", make([]byte, api.MaxMsg-11)) + "q": api.ErrLimit,
		spelt("lnsw", make([]byte, api.MaxMsg-11)): api.ErrInvoice,
	} {
		decodesTo(t, want, text)
	}
}

func TestP7_4Heads(t *testing.T) {
	right := parts(tea())[:6]
	for head, want := range map[string]api.Errno{
		"lnsw2500u": api.OK, "lnsw": api.OK, "lnsw1": api.OK, "lnsw21000000": api.OK, "lnsw20999999999999999990p": api.OK, "lnsw10p": api.OK, "lnsw25m": api.OK,
		"l": api.ErrInvoice, "ln": api.ErrInvoice, "lns": api.ErrInvoice, "lnbc2500u": api.ErrInvoice, "lnsv2500u": api.ErrInvoice, "xlnsw2500u": api.ErrInvoice, "1lnsw": api.ErrInvoice, "2500u": api.ErrInvoice, "sw2500u": api.ErrInvoice, "wsnl": api.ErrInvoice, "a": api.ErrInvoice, "lns21000001": api.ErrInvoice, "lnbc21000001": api.ErrInvoice,
		"lnsw0": api.ErrInvoice, "lnsw01": api.ErrInvoice, "lnsw2500000n": api.ErrInvoice, "lnsw25000u": api.ErrInvoice, "lnsw15p": api.ErrInvoice, "lnswu": api.ErrInvoice, "lnsw2500k": api.ErrInvoice, "lnsw-1": api.ErrInvoice, "lnswlnsw": api.ErrInvoice, "lnsw1000m": api.ErrInvoice, "lnsw~": api.ErrInvoice,
		"lnsw21000001": api.ErrMoney, "lnsw21000000000000000010p": api.ErrMoney, "lnsw" + strings.Repeat("9", 79): api.ErrMoney, "lnsw" + strings.Repeat("9", 78) + "m": api.ErrMoney,
	} {
		s := resigned(head, right...)
		decodesTo(t, want, s)
		decodesTo(t, want, strings.ToUpper(s))
	}
}

// TestP7_4Fields: whatever is wrong with the fields, the Sig is right for them.
func TestP7_4Fields(t *testing.T) {
	head := headed(tea())
	p := parts(tea())[:6]
	with := func(at int, piece []byte) string {
		l := slices.Clone(p)
		l[at] = piece
		return resigned(head, l...)
	}
	decodesTo(t, api.OK, resigned(head, p...))
	decodesTo(t, api.OK, with(3, part(13, nil)))
	for at, piece := range p[1:] {
		at++
		if x, e := Decode(with(at, nil)); x != (api.Invoice{}) || e != api.ErrInvoice {
			t.Errorf("without the field %d: %s, %v", piece[0], short(x), e)
		}
		decodesTo(t, api.ErrInvoice, with(at, slices.Concat(piece, piece)))
		for tag := range byte(32) {
			if tag != piece[0] {
				decodesTo(t, api.ErrInvoice, with(at, slices.Concat([]byte{tag}, piece[1:])))
				decodesTo(t, api.ErrInvoice, with(at, slices.Concat(part(tag, nil), piece)))
				decodesTo(t, api.ErrInvoice, with(at, slices.Concat(piece, part(tag, cut("x")))))
			}
		}
		for other := range 6 {
			l := slices.Clone(p)
			l[at], l[other] = l[other], l[at]
			want := api.ErrInvoice
			if at == other {
				want = api.OK
			}
			decodesTo(t, want, resigned(head, l...))
		}
		more, less := slices.Clone(piece), slices.Clone(piece)
		more[2]++
		less[2]--
		decodesTo(t, api.ErrInvoice, with(at, more))
		decodesTo(t, api.ErrInvoice, with(at, less))
		decodesTo(t, api.ErrInvoice, with(at, append(slices.Clone(piece), 0)))
		decodesTo(t, api.ErrInvoice, with(at, piece[:len(piece)-1]))
		higher := slices.Clone(piece)
		higher[1]++
		decodesTo(t, api.ErrInvoice, with(at, higher))
	}
	for _, stamp := range [][]byte{nil, p[0][1:], slices.Concat([]byte{0}, p[0]), p[0][:6], slices.Concat(p[0], []byte{0})} {
		decodesTo(t, api.ErrInvoice, with(0, stamp))
	}
	for _, stamp := range [][]byte{{0, 0, 0, 0, 0, 0, 0}, {31, 31, 31, 31, 31, 31, 31}, {0, 0, 0, 0, 0, 0, 1}, {16, 0, 0, 0, 0, 0, 0}} {
		decodesTo(t, api.OK, with(0, stamp))
	}
}

// TestP7_4Order: of all orders of the five fields one is right.
func TestP7_4Order(t *testing.T) {
	head, p := headed(tea()), parts(tea())[:6]
	count, good := 0, 0
	var turn func(l [][]byte, left [][]byte)
	turn = func(l, left [][]byte) {
		if len(left) == 0 {
			s := resigned(head, l...)
			checkDecode(t, s)
			if _, e := Decode(s); e == api.OK {
				good++
			}
			count++
		}
		for i := range left {
			turn(append(slices.Clone(l), left[i]), slices.Concat(left[:i], left[i+1:]))
		}
	}
	turn(p[:1], p[1:])
	if count != 120 || good != 1 {
		t.Errorf("%d orders of %d are right", good, count)
	}
}

func TestP7_4Numbers(t *testing.T) {
	head := headed(tea())
	p := parts(tea())[:6]
	for _, x := range []struct {
		tag   byte
		words []byte
		want  api.Errno
	}{
		{6, nil, api.OK}, {6, []byte{1}, api.OK}, {6, []byte{31}, api.OK}, {6, []byte{1, 0}, api.OK}, {6, []byte{1, 0, 0, 0, 0, 0, 0}, api.OK}, {6, []byte{31, 31, 31, 31, 31, 31, 31}, api.OK},
		{6, []byte{0}, api.ErrInvoice}, {6, []byte{0, 0}, api.ErrInvoice}, {6, []byte{0, 1}, api.ErrInvoice}, {6, []byte{0, 31, 31, 31, 31, 31, 31}, api.ErrInvoice}, {6, []byte{0, 31, 31, 31, 31, 31, 31, 31}, api.ErrInvoice}, {6, make([]byte, 7), api.ErrInvoice}, {6, make([]byte, 1023), api.ErrInvoice},
		{6, []byte{1, 0, 0, 0, 0, 0, 0, 0}, api.ErrInvoice}, {6, bytes.Repeat([]byte{31}, 8), api.ErrInvoice}, {6, append([]byte{16}, make([]byte, 12)...), api.ErrInvoice}, {6, append([]byte{1}, make([]byte, 13)...), api.ErrInvoice}, {6, append([]byte{8}, make([]byte, 12)...), api.ErrInvoice}, {6, bytes.Repeat([]byte{1}, 1023), api.ErrInvoice},
		{24, nil, api.OK}, {24, []byte{1}, api.OK}, {24, []byte{1, 8}, api.OK}, {24, []byte{31, 31, 31, 31, 31, 31}, api.OK}, {24, []byte{1, 31, 31, 31, 31, 31, 31}, api.OK}, {24, []byte{1, 0, 0, 0, 0, 0, 0}, api.OK},
		{24, []byte{2, 0, 0, 0, 0, 0, 0}, api.ErrInvoice}, {24, []byte{4, 0, 0, 0, 0, 0, 1}, api.ErrInvoice}, {24, []byte{31, 31, 31, 31, 31, 31, 31}, api.ErrInvoice}, {24, []byte{1, 0, 0, 0, 0, 0, 0, 0}, api.ErrInvoice}, {24, append([]byte{4}, make([]byte, 19)...), api.ErrInvoice},
		{24, []byte{0}, api.ErrInvoice}, {24, []byte{0, 1, 8}, api.ErrInvoice}, {24, []byte{0, 0, 0, 0, 0, 0, 1}, api.ErrInvoice}, {24, append(make([]byte, 1000), 1), api.ErrInvoice},
	} {
		l := slices.Clone(p)
		l[map[byte]int{6: 4, 24: 5}[x.tag]] = part(x.tag, x.words)
		decodesTo(t, x.want, resigned(head, l...))
	}
}

// padded is words with some behind.
func padded(words []byte, more ...byte) []byte { return slices.Concat(words, more) }

// TestP7_4Left: bits that are left over in a text's words.
func TestP7_4Left(t *testing.T) {
	head := headed(tea())
	p := parts(tea())[:6]
	memo := func(words []byte) string {
		return resigned(head, p[0], p[1], p[2], part(13, words), p[4], p[5])
	}
	for size := range 12 {
		s := strings.Repeat("m", size)
		words := cut(s)
		decodesTo(t, api.OK, memo(words))
		if (len(words)+1)*5 < (size+1)*8 { // else it is a memo with a byte 0 more
			decodesTo(t, api.ErrInvoice, memo(padded(words, 0)))
		}
		for bit := range len(words)*5 - size*8 {
			l := slices.Clone(words)
			l[len(l)-1] |= 1 << bit
			decodesTo(t, api.ErrInvoice, memo(l))
		}
	}
	for size := range 30 {
		want := api.ErrInvoice
		if size*5%8 < 5 {
			want = api.OK
		}
		decodesTo(t, want, memo(make([]byte, size)))
	}
	decodesTo(t, api.OK, memo(cut(strings.Repeat("\xff", 639))))
	decodesTo(t, api.OK, memo(make([]byte, 1023)))
	decodesTo(t, api.ErrInvoice, memo(make([]byte, 1022)))
	decodesTo(t, api.ErrInvoice, memo(bytes.Repeat([]byte{31}, 1023)))
}

func TestP7_4Terms(t *testing.T) {
	head := headed(tea())
	p := parts(tea())[:6]
	for h, want := range hashes() {
		if len(h) < 640 {
			decodesTo(t, want, resigned(head, p[0], part(1, cut(string(h))), p[2], p[3], p[4], p[5]))
		}
	}
	for k, want := range payees() {
		if want == api.OK && k != "Pn5;" {
			want = api.ErrSigned
		}
		if len(k) < 640 {
			decodesTo(t, want, resigned(head, p[0], p[1], part(19, cut(string(k))), p[3], p[4], p[5]))
		}
	}
}

func TestP7_4Sig(t *testing.T) {
	head := headed(tea())
	p := parts(tea())[:6]
	body := tea().Sig[4:]
	for sig, want := range map[string]api.Errno{
		"Sn5;" + string(body): api.OK,
		"":                    api.ErrSigned, "x": api.ErrSigned, "\x00": api.ErrSigned, "n5;": api.ErrSigned, "Sn6;" + string(body): api.ErrSigned, "Sn5;" + string(body) + "x": api.ErrSigned, "Sn5;t1:x": api.ErrSigned, "SPn5;" + string(body): api.ErrSigned, "Bn5;" + string(body): api.ErrSigned, strings.Repeat("S", 639): api.ErrSigned, strings.Repeat("\xff", 639): api.ErrSigned, string(body): api.ErrSigned,
	} {
		decodesTo(t, want, spelt(head, append(slices.Clone(p), part(16, cut(sig)))...))
	}
	right := part(16, cut(string(tea().Sig)))
	for name, behind := range map[string][]byte{
		"no field": nil, "half a field": {16}, "two thirds of one": {16, 0}, "cut short": right[:len(right)-1], "one word too many": padded(right, 0), "words behind": padded(right, 1, 2, 3), "a field behind": padded(right, part(7, cut("x"))...), "twice": slices.Concat(right, right),
		"a wrong tag": slices.Concat([]byte{17}, right[1:]), "a field ahead": slices.Concat(part(7, nil), right), "bits left over": part(16, []byte{0}), "a bit left over that is 1": part(16, []byte{0, 1}), "too few words": {16, 31, 31}, "an empty one behind": padded(right, 16, 0, 0),
	} {
		s := spelt(head, append(slices.Clone(p), behind)...)
		if x, e := Decode(s); x != (api.Invoice{}) || e != api.ErrInvoice {
			t.Errorf("%s: %s, %v", name, short(x), e)
		}
		checkDecode(t, s)
	}
	early := spelt(head, p[0], p[1], p[2], p[3], p[4], right, p[5])
	decodesTo(t, api.ErrInvoice, early)
}

// TestP7_4CutShort: the words of a text, cut at each place.
func TestP7_4CutShort(t *testing.T) {
	for _, x := range examples() {
		head, words, _ := bech.Decode(x.text)
		for n := range len(words) {
			decodesTo(t, api.ErrInvoice, spelt(head, words[:n]))
			checkDecode(t, spelt(head, words[n:]))
			checkDecode(t, spelt(head, words[:n], words[n+1:]))
		}
	}
}

func TestP7_4AnotherSecret(t *testing.T) {
	x := tea()
	for _, secret := range []api.Term{"n6;", "n50;", "Pn5;", "Hn5;", "Vn5;n5;", "Kn5;n5;", "T1:n5;"} {
		sig, _ := term.Sign(secret, x.Sig[4:])
		l := parts(x)
		l[6] = part(16, cut(string(sig)))
		decodesTo(t, api.ErrSigned, spelt(headed(x), l...))
	}
	s, other := parts(x), x
	other.Stamp++
	for at := range 6 {
		l := slices.Clone(s)
		l[at] = parts(api.Invoice{Stamp: 1, Hash: "Hn8;", Payee: "Pn6;", Memo: "te", Expiry: 3601, Delta: 41})[at]
		decodesTo(t, api.ErrSigned, spelt(headed(x), l...))
	}
	decodesTo(t, api.ErrSigned, spelt("lnsw2501u", s...))
	decodesTo(t, api.ErrSigned, spelt("lnsw", s...))
	l := parts(other)
	l[6] = s[6]
	decodesTo(t, api.ErrSigned, spelt(headed(x), l...))
}

func TestP7_4FirstError(t *testing.T) {
	x := tea()
	p := parts(x)
	noWords, noSig, right := [][]byte{{1, 2, 3}}, append(slices.Clone(p[:6]), part(16, nil)), p
	for _, c := range []struct {
		head   string
		pieces [][]byte
		want   api.Errno
	}{
		{"x21000001", noWords, api.ErrInvoice}, {"lnbc21000001", right, api.ErrInvoice}, {"lnsw21000001", noWords, api.ErrMoney}, {"lnsw21000001", noSig, api.ErrMoney}, {"lnsw21000001", right, api.ErrMoney},
		{"lnsw0", noSig, api.ErrInvoice}, {"lnsw0", right, api.ErrInvoice}, {"lnsw1", noWords, api.ErrInvoice}, {"lnsw2500u", noWords, api.ErrInvoice}, {"lnsw2500u", noSig, api.ErrSigned}, {"lnsw2500u", right, api.OK}, {"lnsw1", right, api.ErrSigned},
	} {
		s := spelt(c.head, c.pieces...)
		decodesTo(t, c.want, s)
		wrong := s[:len(s)-1] + "q"
		if wrong == s {
			wrong = s[:len(s)-1] + "p"
		}
		decodesTo(t, api.ErrSum, wrong)
		decodesTo(t, api.ErrBech, s+"i")
		decodesTo(t, api.ErrLimit, s+strings.Repeat("i", api.MaxMsg))
	}
	for name, spoil := range map[string]func(l [][]byte){
		"Hash": func(l [][]byte) { l[1] = part(1, cut("n7;")) }, "Payee": func(l [][]byte) { l[2] = part(19, cut("n5;")) }, "Expiry": func(l [][]byte) { l[4] = part(6, []byte{0}) }, "Delta": func(l [][]byte) { l[5] = part(24, []byte{2, 0, 0, 0, 0, 0, 0}) }, "words behind": func(l [][]byte) { l[6] = append(part(16, nil), 0) },
	} {
		l := slices.Clone(noSig)
		spoil(l)
		if y, e := Decode(spelt("lnsw2500u", l...)); y != (api.Invoice{}) || e != api.ErrInvoice {
			t.Errorf("a wrong %s, and no Sig: %s, %v", name, short(y), e)
		}
	}
}

// drawn is an invoice that may be, signed by its payee.
func drawn(draw *rand.Rand) api.Invoice {
	name := func() api.Term { return api.Term("n" + strconv.Itoa(draw.Intn(1000)) + ";") }
	memo := make([]byte, draw.Intn(40))
	if draw.Intn(20) == 0 {
		memo = make([]byte, 600+draw.Intn(40))
	}
	draw.Read(memo)
	amount := draw.Int63n(api.MaxMoney+1) >> draw.Intn(62)
	for range draw.Intn(4) {
		amount -= amount % int64(math.Pow10(draw.Intn(12)))
	}
	secret := name()
	for range draw.Intn(4) {
		secret = []api.Term{"V" + secret + name(), "K" + secret + "t2:ab", "T1:" + secret, "P" + name(), "H" + secret}[draw.Intn(5)]
	}
	x := api.Invoice{Amount: amount, Stamp: draw.Int63n(1<<35) >> draw.Intn(36), Hash: "H" + name(), Memo: string(memo), Expiry: draw.Int63n(1<<35) >> draw.Intn(36), Delta: int(draw.Int63n(1<<31) >> draw.Intn(32))}
	x.Payee, _ = term.Pub(secret)
	return signed(x, secret)
}

func TestP7_4Drawn(t *testing.T) {
	draw := rand.New(rand.NewSource(74))
	for range 1500 {
		x := drawn(draw)
		l := parts(x)
		at := draw.Intn(len(l))
		switch draw.Intn(5) {
		case 0:
			l[at] = slices.Clone(l[at])
			l[at][draw.Intn(len(l[at]))] = byte(draw.Intn(32))
		case 1:
			l[at] = l[at][:draw.Intn(len(l[at]))]
		case 2:
			l = slices.Insert(l, at, []byte{byte(draw.Intn(32))})
		case 3:
			l[at] = part(byte(draw.Intn(32)), l[at])
		case 4:
			l = slices.Insert(l, at, l[draw.Intn(len(l))])
		}
		checkDecode(t, spelt(headed(x), l...))
		if len(l) > 1 {
			checkDecode(t, resigned(headed(x), l[:len(l)-1]...))
		}
	}
	for range 20000 {
		words := make([]byte, draw.Intn(60))
		for i := range words {
			words[i] = []byte{0, 0, 0, 0, 1, 1, 2, 3, 6, 13, 16, 19, 24, 31, byte(draw.Intn(32))}[draw.Intn(15)]
		}
		checkDecode(t, spelt([]string{"lnsw", "lnsw1", "lnsw10p", "lnsw0", "ln"}[draw.Intn(5)], words))
	}
}

func TestP7_5ThereAndBack(t *testing.T) {
	draw := rand.New(rand.NewSource(75))
	for range 2000 {
		x := drawn(draw)
		s, e := Encode(x)
		if e != api.OK {
			t.Fatalf("Encode of %s: %v", short(x), e)
		}
		checkEncode(t, x)
		checkDecode(t, s)
		for _, text := range []string{s, strings.ToUpper(s)} {
			back, e := Decode(text)
			if back != x || e != api.OK {
				t.Fatalf("Decode of %s: %s, %v; want %s", text, short(back), e, short(x))
			}
			if again, e := Encode(back); again != s || e != api.OK {
				t.Fatalf("Encode of Decode of %s: %s, %v", text, again, e)
			}
		}
		if s != strings.ToLower(s) {
			t.Fatalf("a capital letter in %s", s)
		}
	}
}

func TestP7_5UnlikeTexts(t *testing.T) {
	seen := map[string]int64{}
	tell := func(n int64) {
		s, e := Amount(n)
		if before, there := seen[s]; e != api.OK || there && before != n {
			t.Fatalf("Amount of %d: %s, %v; it is that of %d", n, s, e, before)
		}
		seen[s] = n
		if back, e := Read(s); back != n || e != api.OK {
			t.Fatalf("Read of %s: %d, %v; want %d", s, back, e, n)
		}
	}
	for n := range int64(120000) {
		tell(n)
		tell(api.MaxMoney - n)
	}
	for n := range int64(2000) {
		for _, u := range []int64{100, 100000, 100000000, 100000000000} {
			tell(n * u)
			tell(n*u + 1)
			tell(n*u + u - 1)
		}
	}
}

// TestP7_5OneLetter: each letter behind the last 1, in the place of each other word's.
func TestP7_5OneLetter(t *testing.T) {
	for _, x := range examples()[:3] {
		for at := strings.LastIndexByte(x.text, '1') + 1; at < len(x.text); at++ {
			for _, letter := range "qpzry9x8gf2tvdw0s3jn54khce6mua7l" {
				s := x.text[:at] + string(letter) + x.text[at+1:]
				y, e := Decode(s)
				if s != x.text && (e != api.ErrSum || y != (api.Invoice{})) {
					t.Fatalf("Decode of %s: %s, %v", s, short(y), e)
				}
			}
		}
	}
}

// over is s in memory that the test may write to.
func over(s string) (string, []byte) {
	b := []byte(s)
	return unsafe.String(unsafe.SliceData(b), len(b)), b
}

// fill overwrites bytes.
func fill(b []byte) {
	for i := range b {
		b[i] = 0xee
	}
}

// TestNothingChangedOrKept: what is handed in stays as it was, and what is answered does not hang on it any more.
func TestNothingChangedOrKept(t *testing.T) {
	for _, x := range examples() {
		x.x.Sig = "S" + x.secret + x.body
		hash, hashBytes := over(string(x.x.Hash))
		payee, payeeBytes := over(string(x.x.Payee))
		memo, memoBytes := over(x.x.Memo)
		sig, sigBytes := over(string(x.x.Sig))
		y := x.x
		y.Hash, y.Payee, y.Memo, y.Sig = api.Term(hash), api.Term(payee), memo, api.Term(sig)
		body, _ := Body(y)
		text, _ := Encode(y)
		if y != x.x {
			t.Errorf("%s was changed", short(x.x))
		}
		for _, b := range [][]byte{hashBytes, payeeBytes, memoBytes, sigBytes} {
			fill(b)
		}
		if body != x.body || text != x.text {
			t.Errorf("what was answered of %s hangs on it", short(x.x))
		}
		for _, s := range []string{x.text, strings.ToUpper(x.text)} {
			handed, b := over(s)
			got, e := Decode(handed)
			if string(b) != s {
				t.Errorf("%s was changed", s)
			}
			fill(b)
			if got != x.x || e != api.OK {
				t.Errorf("the invoice of %s hangs on it", s)
			}
		}
	}
	for _, s := range []string{"1", "2500u", "10p", "25000u", "21000001", strings.Repeat("9", 100)} {
		handed, b := over(s)
		Read(handed)
		if string(b) != s {
			t.Errorf("%s was changed", s)
		}
	}
}

// apart tells whether no two texts have memory in common.
func apart(l ...string) bool {
	for i, a := range l {
		for _, b := range l[:i] {
			p, q := uintptr(unsafe.Pointer(unsafe.StringData(a))), uintptr(unsafe.Pointer(unsafe.StringData(b)))
			if len(a) > 0 && len(b) > 0 && p < q+uintptr(len(b)) && q < p+uintptr(len(a)) {
				return false
			}
		}
	}
	return true
}

func TestNewMemory(t *testing.T) {
	for _, x := range examples() {
		x.x.Sig = "S" + x.secret + x.body
		b, _ := Body(x.x)
		c, _ := Body(x.x)
		s, _ := Encode(x.x)
		u, _ := Encode(x.x)
		y, _ := Decode(s)
		z, _ := Decode(s)
		if !apart(string(b), string(c), s, u, x.x.Memo, string(x.x.Hash), string(x.x.Payee), string(x.x.Sig),
			y.Memo, string(y.Hash), string(y.Payee), string(y.Sig), z.Memo, string(z.Hash), string(z.Payee), string(z.Sig)) {
			t.Errorf("answers of %s share memory", short(x.x))
		}
	}
	for _, n := range []int64{1, 99, 100, 250000000, 100000000000, 900000000000, 1000000000000, api.MaxMoney} {
		s, _ := Amount(n)
		u, _ := Amount(n)
		if !apart(s, u) {
			t.Errorf("texts of %d share memory", n)
		}
	}
}

// TestNoPanic: bytes, words, terms and numbers of all kinds; what is answered beside an error is nothing.
func TestNoPanic(t *testing.T) {
	draw := rand.New(rand.NewSource(79))
	for range 20000 {
		b := make([]byte, draw.Intn(80))
		draw.Read(b)
		s := string(b)
		if n, e := Read(s); e != api.OK && n != 0 {
			t.Fatalf("Read of %q: %d, %v", s, n, e)
		}
		checkDecode(t, s)
		x := api.Invoice{Amount: draw.Int63() - draw.Int63(), Stamp: draw.Int63() - draw.Int63(), Hash: api.Term(b), Payee: api.Term(b), Memo: s, Expiry: draw.Int63() - draw.Int63(), Delta: draw.Int() - draw.Int(), Sig: api.Term(b)}
		checkBody(t, x)
		checkEncode(t, x)
		x.Amount, x.Stamp, x.Expiry, x.Delta = 0, 0, 0, 0
		checkBody(t, x)
		checkEncode(t, x)
		x.Hash, x.Payee = "Hn1;", "Pn1;"
		checkBody(t, x)
		checkEncode(t, x)
		words := make([]byte, draw.Intn(80))
		for i := range words {
			words[i] = byte(draw.Intn(32))
		}
		checkDecode(t, spelt("lnsw", words))
		checkDecode(t, resigned("lnsw", words))
	}
}
