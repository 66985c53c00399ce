package wire

import (
	"bytes"
	"math"
	"math/rand"
	"slices"
	"strings"
	"testing"
	"unsafe"

	"sluiceway/api"
)

// examples have their bytes written out, those of the chapter ahead; another program that follows the chapter writes the same.
func examples() []struct {
	m api.Msg
	b string
} {
	return []struct {
		m api.Msg
		b string
	}{
		{api.Msg{Kind: api.MPing, Nums: []int64{5}}, "00 12, 00, 01 00 00 00 00 00 00 00 05, 00, 00"},
		{api.Msg{Kind: api.MSettle, Chan: "c", Nums: []int64{1}, Terms: []api.Term{"n7;"}}, "00 82, 01 63, 01 00 00 00 00 00 00 00 01, 01 03 6e 37 3b, 00"},
		{api.Msg{Kind: 999, Text: "x", More: []api.Record{{Type: 1, Body: []byte{9}}}}, "03 e7, 00, 00, 00, 01 78, 01 01 09"},
		{
			api.Msg{Kind: api.MAdd, Chan: "c1", Nums: []int64{1, -5, 1 << 40}, Terms: []api.Term{"Hn1;", "Bn2;T2:n3;t1:x"}, Text: "why", More: []api.Record{{Type: 1, Body: []byte{7}}, {Type: 301}}},
			"00 80, 02 63 31, 03 00 00 00 00 00 00 00 01 ff ff ff ff ff ff ff fb 00 00 01 00 00 00 00 00, 02 04 48 6e 31 3b 0e 42 6e 32 3b 54 32 3a 6e 33 3b 74 31 3a 78, 03 77 68 79, 01 01 07 fd 01 2d 00",
		},
		{api.Msg{Kind: 1}, "00 01, 00, 00, 00, 00"},
		{
			api.Msg{Kind: 65535, Nums: []int64{-1, math.MinInt64, math.MaxInt64, 256, -256}},
			"ff ff, 00, 05 ff ff ff ff ff ff ff ff 80 00 00 00 00 00 00 00 7f ff ff ff ff ff ff ff 00 00 00 00 00 00 01 00 ff ff ff ff ff ff ff 00, 00, 00",
		},
		{api.Msg{Kind: api.MError, Text: "\x00\xff\xfe"}, "00 11, 00, 00, 00, 03 00 ff fe"},
		{
			api.Msg{Kind: api.MAgain, Chan: "\x00", Nums: []int64{3, 2}, Terms: []api.Term{"n0;", "n9223372036854775807;"}},
			"00 88, 01 00, 02 00 00 00 00 00 00 00 03 00 00 00 00 00 00 00 02, 02 03 6e 30 3b 15 6e 39 32 32 33 33 37 32 30 33 36 38 35 34 37 37 35 38 30 37 3b, 00",
		},
		{
			api.Msg{Kind: 21, More: []api.Record{{Type: 253, Body: []byte("ab")}, {Type: 65535}, {Type: 65537, Body: []byte("c")}, {Type: math.MaxUint64, Body: []byte("d")}}},
			"00 15, 00, 00, 00, 00, fd 00 fd 02 61 62 fd ff ff 00 fe 00 01 00 01 01 63 ff ff ff ff ff ff ff ff ff 01 64",
		},
		{
			api.Msg{Kind: api.MPolicy, Chan: "e", Nums: []int64{1, 2, 3, 4, 5, 6, 7}, Terms: []api.Term{"Pn1;", "Sn1;t0:"}},
			"01 02, 01 65, 07 00 00 00 00 00 00 00 01 00 00 00 00 00 00 00 02 00 00 00 00 00 00 00 03 00 00 00 00 00 00 00 04 00 00 00 00 00 00 00 05 00 00 00 00 00 00 00 06 00 00 00 00 00 00 00 07, 02 04 50 6e 31 3b 07 53 6e 31 3b 74 30 3a, 00",
		},
		{api.Msg{Kind: 3, Chan: strings.Repeat("a", 100)}, "00 03, 64" + strings.Repeat("61", 100) + ", 00, 00, 00"},
		{api.Msg{Kind: 3, Text: strings.Repeat("a", 252)}, "00 03, 00, 00, 00, fc" + strings.Repeat("61", 252)},
		{api.Msg{Kind: 3, Text: strings.Repeat("a", 253)}, "00 03, 00, 00, 00, fd 00 fd" + strings.Repeat("61", 253)},
		{api.Msg{Kind: 3, Text: strings.Repeat("a", 4096)}, "00 03, 00, 00, 00, fd 10 00" + strings.Repeat("61", 4096)},
		{api.Msg{Kind: api.MReady, Terms: []api.Term{api.Term("t247:" + strings.Repeat("a", 247))}}, "00 24, 00, 00, 01 fc 74 32 34 37 3a" + strings.Repeat("61", 247) + ", 00"},
		{api.Msg{Kind: api.MReady, Terms: []api.Term{api.Term("t248:" + strings.Repeat("a", 248))}}, "00 24, 00, 00, 01 fd 00 fd 74 32 34 38 3a" + strings.Repeat("61", 248) + ", 00"},
		{api.Msg{Kind: 5, Nums: make([]int64, 32)}, "00 05, 00, 20" + strings.Repeat("00", 256) + ", 00, 00"},
	}
}

func TestP8_1Counts(t *testing.T) {
	for k := range 1 << 16 {
		kind := uint16(k)
		want, known := table()[kind]
		if nums, terms, ok := Counts(kind); nums != want[0] || terms != want[1] || ok != known {
			t.Errorf("Counts of %d: %d, %d, %v; want %v, %v", kind, nums, terms, ok, want, known)
		}
	}
}

func TestP8_1Names(t *testing.T) {
	for _, x := range []struct {
		kind        uint16
		nums, terms int
	}{
		{api.MInit, 1, 0}, {api.MError, 0, 0}, {api.MPing, 1, 0}, {api.MPong, 1, 0}, {api.MOpen, 9, 6}, {api.MAccept, 9, 6}, {api.MFunded, 1, 1},
		{api.MSigned, 0, 1}, {api.MReady, 0, 1}, {api.MShutdown, 0, 1}, {api.MClosing, 1, 1}, {api.MAdd, 3, 2}, {api.MSettle, 1, 1}, {api.MFail, 1, 1},
		{api.MCommit, 1, 1}, {api.MRevoke, 1, 2}, {api.MAgain, 2, 2}, {api.MAnnounce, 1, 8}, {api.MNode, 1, 2}, {api.MPolicy, 7, 2},
	} {
		if nums, terms, ok := Counts(x.kind); nums != x.nums || terms != x.terms || !ok {
			t.Errorf("Counts of %d: %d, %d, %v", x.kind, nums, terms, ok)
		}
	}
	for _, kind := range []uint16{0, 1, 15, 20, 31, 37, 40, 127, 129, 134, 135, 137, 255, 259, 999, 65535} {
		if nums, terms, ok := Counts(kind); nums != 0 || terms != 0 || ok {
			t.Errorf("Counts of %d: %d, %d, %v", kind, nums, terms, ok)
		}
	}
}

func TestP8_2Examples(t *testing.T) {
	for _, x := range examples() {
		if b, e := Encode(x.m); e != api.OK || !bytes.Equal(b, unhex(x.b)) {
			t.Errorf("Encode of %s: %s, %v; want %s", short(x.m), short(b), e, short(x.b))
		}
		checkEncode(t, x.m)
	}
	encodesTo(t, api.ErrMsg, api.Msg{Kind: api.MPing})
	encodesTo(t, api.ErrMsg, api.Msg{Kind: 1000})
	encodesTo(t, api.ErrMsg, api.Msg{Kind: api.MPing, Nums: []int64{5}, More: []api.Record{{Type: 2}}})
	encodesTo(t, api.ErrMsg, api.Msg{})
}

func TestP8_2EmptyListsAreNone(t *testing.T) {
	m := api.Msg{Kind: 21, Nums: []int64{}, Terms: []api.Term{}, More: []api.Record{}}
	if b, e := Encode(m); e != api.OK || !bytes.Equal(b, unhex("00 15 00 00 00 00")) {
		t.Errorf("empty lists: % x, %v", b, e)
	}
	for _, body := range [][]byte{nil, {}} {
		if b, e := Encode(api.Msg{Kind: 21, More: []api.Record{{Type: 1, Body: body}}}); e != api.OK || !bytes.Equal(b, unhex("00 15 00 00 00 00 01 00")) {
			t.Errorf("an empty body: % x, %v", b, e)
		}
	}
}

// asMany is OK where holds.
func asMany(holds bool) api.Errno {
	if holds {
		return api.OK
	}
	return api.ErrMsg
}

// TestP8_2EachKind: as many Nums and Terms as the kind has, one more, one less, and far more; the other way round the same bytes.
func TestP8_2EachKind(t *testing.T) {
	for _, kind := range inOrder() {
		nums, terms := table()[kind][0], table()[kind][1]
		for _, n := range []int{0, nums - 1, nums, nums + 1, 32, 33, 300} {
			for _, k := range []int{0, terms - 1, terms, terms + 1, 32, 33, 300} {
				if n >= 0 && k >= 0 {
					bothTo(t, asMany(n == nums && k == terms), sized(kind, n, k))
				}
			}
		}
	}
}

func TestP8_2OtherKinds(t *testing.T) {
	for _, kind := range []uint16{1, 3, 15, 21, 31, 37, 41, 127, 129, 135, 137, 255, 259, 999, 32767, 32769, 65533, 65535} {
		for _, n := range []int{0, 1, 31, 32, 33, 252, 253, 1000} {
			for _, k := range []int{0, 1, 31, 32, 33, 252, 253, 1000} {
				bothTo(t, asMany(n <= 32 && k <= 32), sized(kind, n, k))
			}
		}
	}
	for _, kind := range []uint16{0, 2, 14, 20, 22, 30, 40, 126, 134, 138, 254, 260, 1000, 32768, 65534} {
		for _, n := range []int{0, 1, 9, 32, 33} {
			bothTo(t, api.ErrMsg, sized(kind, n, 0))
			bothTo(t, api.ErrMsg, sized(kind, n, 1))
			bothTo(t, api.ErrMsg, sized(kind, 0, n))
			bothTo(t, api.ErrMsg, sized(kind, n, n))
		}
	}
}

func TestP8_2AllKinds(t *testing.T) {
	for k := range 1 << 16 {
		m := api.Msg{Kind: uint16(k)}
		want, known := table()[m.Kind]
		bothTo(t, asMany(known && want == [2]int{} || !known && k%2 == 1), m)
	}
}

func TestP8_2Nums(t *testing.T) {
	for _, x := range []struct {
		n int64
		b string
	}{
		{0, "00 00 00 00 00 00 00 00"}, {1, "00 00 00 00 00 00 00 01"}, {255, "00 00 00 00 00 00 00 ff"}, {256, "00 00 00 00 00 00 01 00"},
		{1 << 32, "00 00 00 01 00 00 00 00"}, {0x123456789abcdef0, "12 34 56 78 9a bc de f0"}, {math.MaxInt64, "7f ff ff ff ff ff ff ff"}, {math.MaxInt64 - 1, "7f ff ff ff ff ff ff fe"},
		{-1, "ff ff ff ff ff ff ff ff"}, {-2, "ff ff ff ff ff ff ff fe"}, {-256, "ff ff ff ff ff ff ff 00"}, {-257, "ff ff ff ff ff ff fe ff"}, {-1 << 32, "ff ff ff ff 00 00 00 00"},
		{math.MinInt64, "80 00 00 00 00 00 00 00"}, {math.MinInt64 + 1, "80 00 00 00 00 00 00 01"},
	} {
		want := unhex("00 13 00 01" + x.b + "00 00")
		b, e := Encode(api.Msg{Kind: api.MPong, Nums: []int64{x.n}})
		if e != api.OK || !bytes.Equal(b, want) {
			t.Errorf("Encode of %d: % x, %v; want % x", x.n, b, e, want)
		}
		if m, e := Decode(want); e != api.OK || !slices.Equal(m.Nums, []int64{x.n}) {
			t.Errorf("Decode of % x: %v, %v; want %d", want, m, e, x.n)
		}
	}
}

func TestP8_2Lengths(t *testing.T) {
	for _, kind := range []uint16{api.MError, api.MPing, api.MAdd, 21} {
		for _, x := range []struct {
			letter string
			size   int
		}{{"c", 0}, {"c", 1}, {"\x00", 1}, {"\xff", 100}, {"\x00", 100}, {"c", 99}, {"c", 100}, {"é", 50}, {"é", 51}, {"c", 101}, {"c", 102}, {"c", 252}, {"c", 253}, {"c", 356}, {"c", 4096}, {"c", 10000}} {
			m := ofKind(kind)
			m.Chan = strings.Repeat(x.letter, x.size)
			bothTo(t, asMany(len(m.Chan) <= 100), m)
		}
		for _, x := range []struct {
			letter string
			size   int
		}{{"t", 0}, {"t", 1}, {"\xff", 1}, {"t", 100}, {"t", 101}, {"t", 252}, {"t", 253}, {"t", 256}, {"t", 4095}, {"t", 4096}, {"\x00", 4096}, {"é", 2048}, {"é", 2049}, {"t", 4097}, {"t", 5000}, {"t", 20000}} {
			m := ofKind(kind)
			m.Text = strings.Repeat(x.letter, x.size)
			bothTo(t, asMany(len(m.Text) <= 4096), m)
		}
	}
	for _, size := range []int{65535, 65536, 70000} {
		encodesTo(t, api.ErrMsg, api.Msg{Kind: 21, Text: strings.Repeat("t", size)})
		encodesTo(t, api.ErrMsg, api.Msg{Kind: 21, Chan: strings.Repeat("t", size)})
	}
}

func wrongTerms() []api.Term {
	return []api.Term{
		"", "n", "n;", "n1", "n1;;", "n01;", "n-1;", "n9223372036854775808;", "n1;n2;", " n1;", "n1; ", "\x00", "\xff", "x", "t3:ab", "t1:ab", "t4097:" + api.Term(strings.Repeat("x", 4097)),
		"T1:", "T2:n1;", "T33:" + api.Term(strings.Repeat("n1;", 33)), "PVn1;n2;", "PKn1;n2;", "Xn9;n10;", "Wn1;Pn2;", "WPn1;n2;", "Ln1;n2;", "S", "Sn1;", "B", "Bn1;", "H",
		api.Term(strings.Repeat("H", 64)) + "n1;", api.Term(strings.Repeat("H", 300)) + "n1;", longTerm(16385), longTerm(16384) + "n",
	}
}

// rightTerms with one of each op.
func rightTerms() []api.Term {
	return []api.Term{
		"n1;", "n9223372036854775807;", "t0:", "t2:\x00\xff", "T0:", "T2:n1;t1:x", "Pn1;", "Hn1;", "Sn1;t0:", "Bn1;n2;", "Xn10;n9;", "Dn1;t1:a", "Vn1;n2;", "WPn1;Pn2;", "Kn1;t1:x", "LPn1;t1:x",
		"T32:" + api.Term(strings.Repeat("n1;", 32)), textTerm(4102), api.Term(strings.Repeat("H", 63)) + "n1;", textTerm(252), textTerm(253), longTerm(16384),
	}
}

func TestP8_2Terms(t *testing.T) {
	for _, kind := range []uint16{api.MSigned, api.MAdd, api.MOpen, api.MAnnounce, 21} {
		whole := ofKind(kind)
		if kind == 21 {
			whole = sized(kind, 0, 32)
		}
		for at := range whole.Terms {
			for _, x := range wrongTerms() {
				m := whole
				m.Terms = slices.Clone(m.Terms)
				m.Terms[at] = x
				bothTo(t, api.ErrMsg, m)
			}
			for _, x := range rightTerms() {
				m := whole
				m.Terms = slices.Clone(m.Terms)
				m.Terms[at] = x
				bothTo(t, api.OK, m)
			}
		}
	}
}

func TestP8_2More(t *testing.T) {
	for _, x := range []struct {
		name string
		more []api.Record
		e    api.Errno
	}{
		{"none", nil, api.OK},
		{"type 1", []api.Record{odd(0, "")}, api.OK},
		{"the greatest type", []api.Record{{Type: math.MaxUint64, Body: []byte{1}}}, api.OK},
		{"the greatest even type", []api.Record{{Type: math.MaxUint64 - 1, Body: []byte{1}}}, api.ErrMsg},
		{"type 0", []api.Record{{}}, api.ErrMsg},
		{"type 2", []api.Record{{Type: 2}}, api.ErrMsg},
		{"type 254", []api.Record{{Type: 254}}, api.ErrMsg},
		{"type 2^32", []api.Record{{Type: 1 << 32}}, api.ErrMsg},
		{"type 2^63", []api.Record{{Type: 1 << 63}}, api.ErrMsg},
		{"an even one first", []api.Record{{Type: 2}, {Type: 3}, {Type: 5}}, api.ErrMsg},
		{"an even one between", []api.Record{{Type: 1}, {Type: 4}, {Type: 5}}, api.ErrMsg},
		{"an even one last", []api.Record{{Type: 1}, {Type: 3}, {Type: 6}}, api.ErrMsg},
		{"rising", []api.Record{odd(0, "a"), odd(1, "b"), odd(200, "c"), odd(1<<20, "d"), odd(1<<50, "e")}, api.OK},
		{"equal", []api.Record{odd(1, "a"), odd(1, "b")}, api.ErrMsg},
		{"just the same", []api.Record{odd(1, "a"), odd(1, "a")}, api.ErrMsg},
		{"falling", []api.Record{odd(2, ""), odd(1, "")}, api.ErrMsg},
		{"falling at the end", []api.Record{odd(2, ""), odd(5, ""), odd(9, ""), odd(8, "")}, api.ErrMsg},
		{"falling by 2^32", []api.Record{odd(1<<40, ""), odd(1, "")}, api.ErrMsg},
		{"MaxRecs", manyRecords(64), api.OK},
		{"one more", manyRecords(65), api.ErrMsg},
		{"many more", manyRecords(1000), api.ErrMsg},
		{"bodies about a form's bound", []api.Record{odd(0, strings.Repeat("a", 252)), odd(1, strings.Repeat("b", 253)), odd(2, strings.Repeat("c", 254))}, api.OK},
		{"a long body", []api.Record{odd(0, strings.Repeat("a", 32000))}, api.OK},
		{"bodies that look like records", []api.Record{odd(0, "\x02\x00"), odd(1, "\x02\x00\x01\x00")}, api.OK},
	} {
		for _, kind := range []uint16{api.MPing, api.MError, api.MSettle, 21} {
			m := ofKind(kind)
			m.More = x.more
			if b, e := Encode(m); e != x.e {
				t.Errorf("%s: Encode of a message of kind %d: %s, %v; want %v", x.name, kind, short(b), e, x.e)
			}
			if back, e := Decode(laid(m)); e != x.e {
				t.Errorf("%s: Decode of a message of kind %d: %s, %v; want %v", x.name, kind, short(back), e, x.e)
			}
			bothTo(t, x.e, m)
		}
	}
}

func TestP8_2Limit(t *testing.T) {
	long := ofKind(api.MOpen)
	long.Terms[0], long.Terms[5] = longTerm(16000), longTerm(16384)
	texts := api.Msg{Kind: 77, Chan: strings.Repeat("c", 100), Text: strings.Repeat("t", 4096), Terms: []api.Term{longTerm(9000), longTerm(9000)}}
	for _, m := range []api.Msg{{Kind: 21}, ofKind(api.MError), ofKind(api.MPolicy), sized(21, 32, 32), long, texts, {Kind: 21, More: manyRecords(63)}} {
		for _, size := range []int{32766, 32767, 32768} {
			bothTo(t, api.OK, filled(m, size))
		}
		for _, size := range []int{32769, 32770} {
			bothTo(t, api.ErrLimit, filled(m, size))
		}
	}
	two := api.Msg{Kind: 21, Terms: []api.Term{longTerm(16384), longTerm(32768 - 16384 - 12)}}
	bothTo(t, api.OK, two)
	two.Terms[1] = longTerm(32769 - 16384 - 12)
	bothTo(t, api.ErrLimit, two)
	all := sized(21, 32, 32)
	for i := range all.Terms {
		all.Terms[i] = longTerm(16384)
	}
	bothTo(t, api.ErrLimit, all)
}

// TestP8_2LimitOfMore: a stream of MaxMsg bytes is taken, but the message has more; one that is longer is not taken, so that the message may not be.
func TestP8_2LimitOfMore(t *testing.T) {
	stream := func(size int) []api.Record { return []api.Record{odd(0, strings.Repeat("a", size-4))} }
	encodesTo(t, api.OK, api.Msg{Kind: 21, More: stream(32768 - 6)})
	encodesTo(t, api.ErrLimit, api.Msg{Kind: 21, More: stream(32768 - 5)})
	encodesTo(t, api.ErrLimit, api.Msg{Kind: 21, More: stream(32768)})
	encodesTo(t, api.ErrMsg, api.Msg{Kind: 21, More: stream(32769)})
	encodesTo(t, api.ErrMsg, api.Msg{Kind: 21, More: []api.Record{odd(0, strings.Repeat("a", 20000)), odd(1, strings.Repeat("a", 20000))}})
	encodesTo(t, api.ErrMsg, api.Msg{Kind: 21, More: []api.Record{odd(0, strings.Repeat("a", 1<<20))}})
}

// TestP8_2Order: what may not be is told ahead of what is too long.
func TestP8_2Order(t *testing.T) {
	long := func() api.Msg { return filled(sized(21, 2, 2), 32780) }
	encodesTo(t, api.ErrLimit, long())
	for name, spoil := range map[string]func(*api.Msg){
		"an even kind":       func(m *api.Msg) { m.Kind = 22 },
		"a kind of the rest": func(m *api.Msg) { m.Kind = api.MAdd },
		"too many numbers":   func(m *api.Msg) { m.Nums = make([]int64, 33) },
		"too many terms":     func(m *api.Msg) { m.Terms = sized(21, 0, 33).Terms },
		"a channel too long": func(m *api.Msg) { m.Chan = strings.Repeat("c", 101) },
		"a text too long":    func(m *api.Msg) { m.Text = strings.Repeat("c", 4097) },
		"a wrong term":       func(m *api.Msg) { m.Terms[1] = "n1" },
		"an even type":       func(m *api.Msg) { m.More = append([]api.Record{{Type: 2}}, m.More...) },
		"types that fall":    func(m *api.Msg) { m.More = append(m.More, odd(3, "")) },
		"too many records":   func(m *api.Msg) { m.More = append(manyRecords(64), m.More...) },
	} {
		m := long()
		spoil(&m)
		if b, e := Encode(m); e != api.ErrMsg || len(b) != 0 {
			t.Errorf("%s, and too long: %s, %v", name, short(b), e)
		}
		checkEncode(t, m)
		if x, e := Decode(laid(m)); e != api.ErrLimit || !same(x, api.Msg{}) {
			t.Errorf("%s, and too long: %s, %v", name, short(x), e)
		}
	}
}

func TestP8_3Examples(t *testing.T) {
	for _, x := range examples() {
		if m, e := Decode(unhex(x.b)); e != api.OK || !same(m, x.m) {
			t.Errorf("Decode of %s: %s, %v; want %s", short(x.b), short(m), e, short(x.m))
		}
		checkDecode(t, unhex(x.b))
	}
	for _, s := range []string{
		"", "00", "12", "00 12", "00 12 00", "00 12 00 00 00 00", "03 e8 00 00 00 00", "00 12 00 01 00 00 00 00 00 00 00 05 00 00 02 00", "00 00 00 00 00 00", "12 00 00 01 00 00 00 00 00 00 00 05 00 00",
	} {
		decodesTo(t, api.ErrMsg, unhex(s))
	}
	decodesTo(t, api.ErrMsg, nil)
}

// longer is a count in each form that is not its shortest.
func longer(n uint64) [][]byte {
	var l [][]byte
	for _, b := range [][]byte{{253, byte(n >> 8), byte(n)}, {254, 0, 0, byte(n >> 8), byte(n)}, {255, 0, 0, 0, 0, 0, 0, byte(n >> 8), byte(n)}} {
		if len(b) > len(written(n)) {
			l = append(l, b)
		}
	}
	return l
}

// whole is a message with something of everything.
func whole() api.Msg {
	return api.Msg{Kind: 21, Chan: "chan", Nums: []int64{7, -8}, Terms: []api.Term{"Hn1;", textTerm(300)}, Text: strings.Repeat("t", 260), More: []api.Record{odd(0, "ab"), odd(150, strings.Repeat("c", 255))}}
}

// TestP8_3Counts: each count in forms that are too long, one greater and one less than it is, and as great as it can be told.
func TestP8_3Counts(t *testing.T) {
	m := whole()
	h, x := counted("Hn1;")[1:], counted(string(m.Terms[1]))[3:]
	p := pieces(m)
	for name, put := range map[string]struct {
		count uint64
		bytes func(b []byte) []byte
	}{
		"Chan":     {4, func(b []byte) []byte { return slices.Concat(p[0], b, p[1][1:], slices.Concat(p[2:]...)) }},
		"Nums":     {2, func(b []byte) []byte { return slices.Concat(p[0], p[1], b, slices.Concat(p[3:]...)) }},
		"Terms":    {2, func(b []byte) []byte { return slices.Concat(slices.Concat(p[:4]...), b, slices.Concat(p[5:]...)) }},
		"a term":   {4, func(b []byte) []byte { return slices.Concat(slices.Concat(p[:5]...), b, h, p[5][5:], p[6], p[7]) }},
		"the next": {300, func(b []byte) []byte { return slices.Concat(slices.Concat(p[:5]...), p[5][:5], b, x, p[6], p[7]) }},
		"Text":     {260, func(b []byte) []byte { return slices.Concat(slices.Concat(p[:6]...), b, p[6][3:], p[7]) }},
		"a type":   {1, func(b []byte) []byte { return slices.Concat(slices.Concat(p[:7]...), b, p[7][1:]) }},
		"a body":   {2, func(b []byte) []byte { return slices.Concat(slices.Concat(p[:7]...), p[7][:1], b, p[7][2:]) }},
	} {
		if got, e := Decode(put.bytes(written(put.count))); e != api.OK || !same(got, m) {
			t.Errorf("%s: Decode of the message itself: %s, %v", name, short(got), e)
		}
		for _, b := range longer(put.count) {
			if got, e := Decode(put.bytes(b)); e != api.ErrMsg || !same(got, api.Msg{}) {
				t.Errorf("%s: a form too long, % x: %s, %v", name, b, short(got), e)
			}
			checkDecode(t, put.bytes(b))
		}
		for _, n := range []uint64{0, put.count - 1, put.count + 1, 32, 33, 252, 253, 1000, 32767, 32768, 65535, 65536, math.MaxInt32, 1 << 31, math.MaxUint32, 1 << 32, 1<<32 + put.count, math.MaxInt64, 1 << 63, 1<<63 + put.count, math.MaxUint64 - 7, math.MaxUint64} {
			got, e := Decode(put.bytes(written(n)))
			if e == api.OK && same(got, m) && n != put.count {
				t.Errorf("%s: a count of %d: %s", name, n, short(got))
			}
			if n > 32768 && name != "a type" && e != api.ErrMsg {
				t.Errorf("%s: a count of %d: %s, %v", name, n, short(got), e)
			}
			checkDecode(t, put.bytes(written(n)))
		}
	}
}

// TestP8_3GreatCounts: counts that are greater than what is left, at the very end and ahead of much more.
func TestP8_3GreatCounts(t *testing.T) {
	for _, n := range []uint64{2, 3, 31, 32, 33, 252, 253, 65535, 65536, math.MaxUint32, 1 << 32, 1 << 61, math.MaxInt64, 1 << 63, math.MaxUint64} {
		for _, head := range []string{"00 15", "00 15 00", "00 15 00 00", "00 15 00 00 01", "00 15 00 00 00", "00 15 00 00 00 00 01", "00 15 00 00 00 01 61 01"} {
			b := append(unhex(head), written(n)...)
			decodesTo(t, api.ErrMsg, b)
			decodesTo(t, api.ErrMsg, append(b, unhex("fd")...))
		}
	}
	decodesTo(t, api.ErrMsg, append(unhex("00 15 00 fd 0f ff"), make([]byte, 32760-6)...))
	decodesTo(t, api.ErrMsg, append(unhex("00 15 00 00 fd 7f ff"), make([]byte, 32768-7)...))
}

// TestP8_3MoreParts: bytes that tell, and have, more or fewer parts than the kind.
func TestP8_3MoreParts(t *testing.T) {
	decodesTo(t, api.ErrMsg, unhex("00 12 00 02 00 00 00 00 00 00 00 05 00 00 00 00 00 00 00 06 00 00"))
	decodesTo(t, api.ErrMsg, unhex("00 12 00 01 00 00 00 00 00 00 00 05 01 03 6e 37 3b 00"))
	decodesTo(t, api.ErrMsg, unhex("00 12 00 00 00 00"))
	decodesTo(t, api.ErrMsg, unhex("00 23 00 00 00 00"))
	decodesTo(t, api.ErrMsg, unhex("00 23 00 00 02 03 6e 37 3b 03 6e 37 3b 00"))
	decodesTo(t, api.OK, unhex("00 23 00 00 01 03 6e 37 3b 00"))
	decodesTo(t, api.ErrMsg, unhex("00 23 00 00 01 00 00"))
	decodesTo(t, api.OK, unhex("00 11 00 00 00 00"))
	decodesTo(t, api.ErrMsg, unhex("00 11 00 01 00 00 00 00 00 00 00 00 00 00"))
	decodesTo(t, api.OK, unhex("00 15 00 01 00 00 00 00 00 00 00 00 00 00"))
	decodesTo(t, api.ErrMsg, unhex("00 14 00 01 00 00 00 00 00 00 00 00 00 00"))
}

func TestP8_3Limit(t *testing.T) {
	most := laid(filled(whole(), 32768))
	decodesTo(t, api.OK, most)
	for name, b := range map[string][]byte{
		"a message of one byte more": laid(filled(whole(), 32769)),
		"one byte behind":            append(bytes.Clone(most), 0),
		"a record behind":            append(bytes.Clone(most), unhex("ff ff ff ff ff ff ff ff ff 00")...),
		"noughts":                    make([]byte, 32769),
		"only 255":                   bytes.Repeat([]byte{255}, 32769),
		"an even kind":               append([]byte{0, 20}, make([]byte, 32767)...),
		"far more":                   make([]byte, 1<<20),
	} {
		if m, e := Decode(b); e != api.ErrLimit || !same(m, api.Msg{}) {
			t.Errorf("%s: %s, %v", name, short(m), e)
		}
	}
	decodesTo(t, api.ErrMsg, most[:32767])
	decodesTo(t, api.ErrMsg, make([]byte, 32768))
	decodesTo(t, api.ErrMsg, bytes.Repeat([]byte{255}, 32768))
}

func TestP8_3Drawn(t *testing.T) {
	draw := rand.New(rand.NewSource(83))
	for range 20000 {
		b := laid(drawn(draw))
		checkDecode(t, b)
		at := draw.Intn(min(len(b), 60))
		c := bytes.Clone(b)
		c[at] = byte(draw.Intn(256))
		checkDecode(t, c)
		checkDecode(t, b[:draw.Intn(len(b))])
		checkDecode(t, b[at:])
		checkDecode(t, slices.Insert(bytes.Clone(b), at, byte(draw.Intn(4))))
		checkDecode(t, slices.Delete(bytes.Clone(b), at, at+1))
		p := pieces(drawn(draw))
		p[draw.Intn(8)] = pieces(drawn(draw))[draw.Intn(8)]
		checkDecode(t, slices.Concat(p...))
	}
	for range 50000 {
		b := make([]byte, draw.Intn(20))
		for i := range b {
			b[i] = []byte{0, 0, 0, 0, 0, 1, 1, 2, 3, 8, 17, 18, 'n', ';', 't', ':', '0', '1', 253, 255}[draw.Intn(20)]
		}
		checkDecode(t, b)
		if len(b) > 1 {
			b[0], b[1] = 0, []byte{16, 17, 18, 21, 35, 38, 39, 130}[draw.Intn(8)]
			checkDecode(t, b)
		}
	}
}

// over is s in memory that the test may write to.
func over(s string) (string, []byte) {
	b := []byte(s)
	return unsafe.String(unsafe.SliceData(b), len(b)), b
}

// fill overwrites bytes.
func fill(b []byte) {
	for i := range b {
		b[i] = 0xee
	}
}

// handed is a copy of m whose texts and bodies the test may write to, each list and body with something behind its length, and all that memory.
func handed(m api.Msg) (api.Msg, [][]byte) {
	var memory [][]byte
	text := func(s string) string {
		u, b := over(s)
		memory = append(memory, b)
		return u
	}
	x := api.Msg{Kind: m.Kind, Chan: text(m.Chan), Text: text(m.Text), Nums: append(slices.Clone(m.Nums), 77)[:len(m.Nums)]}
	for _, t := range m.Terms {
		x.Terms = append(x.Terms, api.Term(text(string(t))))
	}
	x.Terms = append(x.Terms, "behind")[:len(m.Terms)]
	for _, r := range m.More {
		body := append(bytes.Clone(r.Body), "behind"...)
		memory = append(memory, body[:len(r.Body)])
		x.More = append(x.More, api.Record{Type: r.Type, Body: body[:len(r.Body)]})
	}
	x.More = append(x.More, api.Record{Type: 77})[:len(m.More)]
	return x, memory
}

// behindAsItWas looks at what handed put behind the lengths.
func behindAsItWas(m api.Msg) bool {
	for _, r := range m.More {
		if string(r.Body[len(r.Body):len(r.Body)+6]) != "behind" {
			return false
		}
	}
	n, k, l := len(m.Nums), len(m.Terms), len(m.More)
	return m.Nums[:n+1][n] == 77 && m.Terms[:k+1][k] == "behind" && m.More[:l+1][l].Type == 77
}

// memoryCases are messages that may be, and some that may not or are too long.
func memoryCases() []api.Msg {
	l := []api.Msg{whole(), {Kind: 22}, {Kind: api.MPing}, filled(whole(), 32769), filled(whole(), 32768), {Kind: 21, Terms: []api.Term{"n1"}}, {Kind: 21, More: []api.Record{{Type: 2, Body: []byte("a")}}}, {Kind: 21, More: []api.Record{odd(5, "a"), odd(4, "b")}}}
	for _, x := range examples() {
		l = append(l, x.m)
	}
	return l
}

func TestP8_4EncodeOnlyReads(t *testing.T) {
	for _, m := range memoryCases() {
		x, memory := handed(m)
		b, e := Encode(x)
		if !same(x, m) || !behindAsItWas(x) {
			t.Errorf("%s was changed", short(m))
		}
		for _, l := range memory {
			fill(l)
		}
		want, wantE := encoded(m)
		if e != wantE || !bytes.Equal(b, want) {
			t.Errorf("what was answered of %s hangs on it", short(m))
		}
	}
}

func TestP8_4DecodeOnlyReads(t *testing.T) {
	for _, m := range memoryCases() {
		b := laid(m)
		x := append(bytes.Clone(b), "behind"...)
		got, e := Decode(x[:len(b)])
		if string(x) != string(b)+"behind" {
			t.Errorf("the bytes of %s were changed", short(m))
		}
		fill(x)
		want, wantE := decoded(b)
		if e != wantE || !same(got, want) {
			t.Errorf("the message of %s hangs on the bytes", short(m))
		}
	}
}

// A span is where in memory something lies. It holds a pointer, not a number: what lies there must outlive the question, lest its memory be given to a later answer.
type span struct {
	from unsafe.Pointer
	size uintptr
}

func (s span) start() uintptr { return uintptr(s.from) }

func textSpan(s string) span {
	return span{unsafe.Pointer(unsafe.StringData(s)), uintptr(len(s))}
}

func listSpan[E any](l []E) span {
	var one E
	return span{unsafe.Pointer(unsafe.SliceData(l)), uintptr(cap(l)) * unsafe.Sizeof(one)}
}

// spans are all places of a message's memory, what lies behind lengths with them.
func spans(m api.Msg) []span {
	l := []span{textSpan(m.Chan), textSpan(m.Text), listSpan(m.Nums), listSpan(m.Terms), listSpan(m.More)}
	for _, t := range m.Terms {
		l = append(l, textSpan(string(t)))
	}
	for _, r := range m.More {
		l = append(l, listSpan(r.Body))
	}
	return l
}

// apart tells whether no two spans have a byte in common.
func apart(l []span) bool {
	for i, a := range l {
		for _, b := range l[:i] {
			if max(a.start(), b.start()) < min(a.start()+a.size, b.start()+b.size) {
				return false
			}
		}
	}
	return true
}

func TestP8_4NewMemory(t *testing.T) {
	cases := memoryCases()
	one := sized(21, 3, 0)
	one.Chan, one.Text = "a", "a"
	one.Terms = []api.Term{"t1:a", "t1:a", "t1:a"}
	one.More = []api.Record{odd(0, "a"), odd(1, "a"), odd(2, "aa")}
	for _, m := range append(cases, one, api.Msg{Kind: 21, Chan: "\x00", Text: "\x00"}) {
		x, _ := handed(m)
		b, e := Encode(x)
		c, _ := Encode(x)
		if e != api.OK {
			continue
		}
		y, _ := Decode(b)
		z, _ := Decode(b)
		if !apart(slices.Concat(spans(x), spans(y), spans(z), []span{listSpan(b), listSpan(c)})) {
			t.Errorf("answers of %s share memory", short(m))
		}
		fill(b)
		if got, _ := Decode(c); !same(got, m) || !same(y, m) || !same(z, m) {
			t.Errorf("answers of %s hang on each other", short(m))
		}
	}
}

func TestP8_5ThereAndBack(t *testing.T) {
	draw := rand.New(rand.NewSource(85))
	for range 20000 {
		m := drawn(draw)
		checkEncode(t, m)
		b, e := Encode(m)
		if e != api.OK {
			continue
		}
		back, e := Decode(b)
		if e != api.OK || !same(back, m) {
			t.Fatalf("Decode of Encode of %s: %s, %v", short(m), short(back), e)
		}
		again, e := Encode(back)
		if e != api.OK || !bytes.Equal(again, b) {
			t.Fatalf("Encode of Decode of %s: %s, %v", short(b), short(again), e)
		}
	}
	for _, kind := range inOrder() {
		b, e := Encode(ofKind(kind))
		if m, f := Decode(b); e != api.OK || f != api.OK || !same(m, ofKind(kind)) {
			t.Errorf("kind %d: %v, %s, %v", kind, e, short(m), f)
		}
	}
}

// TestP8_5BytesAnother: any bytes that are read are those that are written of what they say.
func TestP8_5BytesAnother(t *testing.T) {
	for _, x := range examples() {
		b := unhex(x.b)
		for at := range min(len(b), 120) {
			for c := range 256 {
				y := bytes.Clone(b)
				y[at] = byte(c)
				m, e := Decode(y)
				if e != api.OK {
					continue
				}
				if again, e := Encode(m); e != api.OK || !bytes.Equal(again, y) {
					t.Fatalf("Encode of Decode of %s: %s, %v", short(y), short(again), e)
				}
				if c != int(b[at]) && same(m, x.m) {
					t.Fatalf("%s and %s say the same", short(b), short(y))
				}
			}
		}
	}
}

// TestP8_5CutShort: a message without records is refused wherever it is cut; with some, unless the cut is just behind one, where the bytes are those of the message without the others.
func TestP8_5CutShort(t *testing.T) {
	for _, x := range append(memoryCases()[:1], examples()[3].m, examples()[8].m, examples()[9].m, sized(21, 32, 32), ofKind(api.MAnnounce), ofKind(api.MOpen)) {
		b := laid(x)
		ends := map[int]int{}
		for k := range x.More {
			part := x
			part.More = x.More[:k]
			ends[len(laid(part))] = k + 1
		}
		for at := range b {
			m, e := Decode(b[:at])
			part := x
			if k := ends[at]; k > 0 {
				part.More = x.More[:k-1]
				if e != api.OK || !same(m, part) {
					t.Errorf("%s, cut behind %d records: %s, %v", short(x), k-1, short(m), e)
				}
			} else if e != api.ErrMsg || !same(m, api.Msg{}) {
				t.Errorf("%s, cut at %d: %s, %v", short(x), at, short(m), e)
			}
			checkDecode(t, b[:at])
		}
	}
}

func TestP8_5OneBehind(t *testing.T) {
	for _, x := range examples() {
		for c := range 256 {
			b := append(unhex(x.b), byte(c))
			decodesTo(t, api.ErrMsg, b)
		}
	}
	for _, s := range []string{"01 01", "03 02 05", "02 00", "00 00", "01 fd 00 00", "fd 00 01 00", "01 00 01 00", "03 00 01 00", "01 00 00", "01 00 03"} {
		decodesTo(t, api.ErrMsg, append(unhex("00 12 00 01 00 00 00 00 00 00 00 05 00 00"), unhex(s)...))
	}
	decodesTo(t, api.OK, unhex("00 12 00 01 00 00 00 00 00 00 00 05 00 00 01 00 03 01 09"))
}

// TestNoPanic: bytes and messages of all kinds; what is answered beside an error is nothing.
func TestNoPanic(t *testing.T) {
	draw := rand.New(rand.NewSource(89))
	text := func(most int) string {
		b := make([]byte, draw.Intn(most))
		draw.Read(b)
		return string(b)
	}
	for range 20000 {
		checkDecode(t, []byte(text(80)))
		checkDecode(t, append([]byte{0, 21, 0}, text(80)...))
		checkDecode(t, append([]byte{0, 21, 0, 0, 0}, text(80)...))
		m := api.Msg{Kind: uint16(draw.Intn(1 << (1 + draw.Intn(16)))), Chan: text(130), Text: text(1 << draw.Intn(14))}
		for range draw.Intn(40) {
			m.Nums = append(m.Nums, int64(draw.Uint64()))
		}
		for range draw.Intn(3) * draw.Intn(15) {
			m.Terms = append(m.Terms, []api.Term{"n1;", "Pn1;", api.Term(text(9))}[draw.Intn(3)])
		}
		for range draw.Intn(3) * draw.Intn(40) {
			m.More = append(m.More, api.Record{Type: draw.Uint64(), Body: []byte(text(20))})
		}
		checkEncode(t, m)
		checkDecode(t, laid(m)[:min(len(laid(m)), 32768)])
		m.Nums, m.Terms, m.More = nil, nil, nil
		checkEncode(t, m)
	}
}
