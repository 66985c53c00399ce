package tlv

import (
	"bytes"
	"encoding/binary"
	"encoding/hex"
	"math"
	"math/rand"
	"slices"
	"strings"
	"testing"

	"sluiceway/api"
)

// unhex is the bytes of hex digits, with blanks between where one likes.
func unhex(s string) []byte {
	b, err := hex.DecodeString(strings.ReplaceAll(s, " ", ""))
	if err != nil {
		panic(err)
	}
	return b
}

// edges are numbers about each bound of a form, and some within.
func edges() []uint64 {
	l := []uint64{0, 1, 2, math.MaxUint64 - 1, math.MaxUint64}
	for _, n := range []uint64{128, 253, 255, 256, 1 << 15, 1 << 16, 1 << 24, 1 << 31, 1 << 32, 1 << 40, 1 << 48, 1 << 56, 1 << 63} {
		l = append(l, n-1, n, n+1)
	}
	slices.Sort(l)
	return slices.Compact(l)
}

// drawn is a number of any size.
func drawn(draw *rand.Rand) uint64 {
	if draw.Intn(8) == 0 {
		l := edges()
		return l[draw.Intn(len(l))]
	}
	return draw.Uint64() >> draw.Intn(64)
}

// written is n as the chapter's words say, by the library's means.
func written(n uint64) []byte {
	if n < 253 {
		return []byte{byte(n)}
	}
	if n < 1<<16 {
		return binary.BigEndian.AppendUint16([]byte{253}, uint16(n))
	}
	if n < 1<<32 {
		return binary.BigEndian.AppendUint32([]byte{254}, uint32(n))
	}
	return binary.BigEndian.AppendUint64([]byte{255}, n)
}

// begins is what Get should answer.
func begins(b []byte) (uint64, int, api.Errno) {
	if len(b) == 0 {
		return 0, 0, api.ErrShort
	}
	size := map[byte]int{253: 3, 254: 5, 255: 9}[b[0]]
	if size == 0 {
		return uint64(b[0]), 1, api.OK
	}
	if len(b) < size {
		return 0, 0, api.ErrShort
	}
	n := binary.BigEndian.Uint64(append(make([]byte, 9-size), b[1:size]...))
	if !bytes.Equal(written(n), b[:size]) {
		return 0, 0, api.ErrForm
	}
	return n, size, api.OK
}

// laid is the bytes of records one behind the other, whether that stream may be or not.
func laid(l ...api.Record) []byte {
	var b []byte
	for _, r := range l {
		b = append(append(append(b, written(r.Type)...), written(uint64(len(r.Body)))...), r.Body...)
	}
	return b
}

// streamed is what Stream should answer.
func streamed(l []api.Record) ([]byte, api.Errno) {
	if len(l) > 64 {
		return nil, api.ErrLimit
	}
	for i := 1; i < len(l); i++ {
		if l[i].Type <= l[i-1].Type {
			return nil, api.ErrForm
		}
	}
	b := laid(l...)
	if len(b) > 32768 {
		return nil, api.ErrLimit
	}
	return b, api.OK
}

// parted is what Records should answer.
func parted(b []byte) ([]api.Record, api.Errno) {
	if len(b) > 32768 {
		return nil, api.ErrLimit
	}
	var l []api.Record
	for at := 0; at < len(b); {
		t, k, e := begins(b[at:])
		if e != api.OK {
			return nil, e
		}
		at += k
		if len(l) > 0 && t <= l[len(l)-1].Type {
			return nil, api.ErrForm
		}
		if len(l) == 64 {
			return nil, api.ErrLimit
		}
		n, k, e := begins(b[at:])
		if e != api.OK {
			return nil, e
		}
		at += k
		if n > 32768 || at+int(n) > len(b) {
			return nil, api.ErrShort
		}
		l = append(l, api.Record{Type: t, Body: append([]byte(nil), b[at:at+int(n)]...)})
		at += int(n)
	}
	return l, api.OK
}

func sameRecords(a, b []api.Record) bool {
	return slices.EqualFunc(a, b, func(x, y api.Record) bool { return x.Type == y.Type && bytes.Equal(x.Body, y.Body) })
}

// rec is a record whose body is the bytes of hex digits.
func rec(t uint64, body string) api.Record { return api.Record{Type: t, Body: unhex(body)} }

// sized is a record with a body of n bytes.
func sized(t uint64, n int) api.Record {
	return api.Record{Type: t, Body: bytes.Repeat([]byte{7}, n)}
}

// many are n records with rising types from 0 on, each of 2 bytes.
func many(n int) []api.Record {
	var l []api.Record
	for i := range n {
		l = append(l, api.Record{Type: uint64(i)})
	}
	return l
}

// drawnRecords are records that may mostly be a stream.
func drawnRecords(draw *rand.Rand) []api.Record {
	n := draw.Intn(8)
	if draw.Intn(10) == 0 {
		n = 60 + draw.Intn(8)
	}
	var l []api.Record
	for range n {
		size := draw.Intn(6)
		switch draw.Intn(30) {
		case 0:
			size = 250 + draw.Intn(6)
		case 1:
			size = draw.Intn(20000)
		}
		body := make([]byte, size)
		draw.Read(body)
		l = append(l, api.Record{Type: drawn(draw), Body: body})
	}
	if draw.Intn(6) > 0 {
		slices.SortFunc(l, func(a, b api.Record) int { return bytes.Compare(key(a.Type), key(b.Type)) })
	}
	if draw.Intn(6) > 0 {
		l = slices.CompactFunc(l, func(a, b api.Record) bool { return a.Type == b.Type })
	}
	return l
}

// key is n in eight bytes.
func key(n uint64) []byte { return binary.BigEndian.AppendUint64(nil, n) }

func checkGet(t *testing.T, b []byte) {
	t.Helper()
	n, k, e := Get(b)
	wantN, wantK, wantE := begins(b)
	if n != wantN || k != wantK || e != wantE {
		t.Fatalf("Get of % x: %d, %d, %v; want %d, %d, %v", b, n, k, e, wantN, wantK, wantE)
	}
}

func checkStream(t *testing.T, l []api.Record) {
	t.Helper()
	b, e := Stream(l)
	want, wantE := streamed(l)
	if e != wantE || !bytes.Equal(b, want) {
		t.Fatalf("Stream of %v: % x, %v; want % x, %v", l, b, e, want, wantE)
	}
}

func checkRecords(t *testing.T, b []byte) {
	t.Helper()
	l, e := Records(b)
	want, wantE := parted(b)
	if e != wantE || !sameRecords(l, want) {
		t.Fatalf("Records of % x: %v, %v; want %v, %v", b, l, e, want, wantE)
	}
}

func TestP5_1PutExamples(t *testing.T) {
	for _, x := range []struct {
		n uint64
		b string
	}{
		{0, "00"}, {1, "01"}, {127, "7f"}, {128, "80"}, {251, "fb"}, {252, "fc"},
		{253, "fd 00 fd"}, {254, "fd 00 fe"}, {255, "fd 00 ff"}, {256, "fd 01 00"}, {0x1234, "fd 12 34"}, {65534, "fd ff fe"}, {65535, "fd ff ff"},
		{65536, "fe 00 01 00 00"}, {65537, "fe 00 01 00 01"}, {0x12345678, "fe 12 34 56 78"}, {1<<32 - 1, "fe ff ff ff ff"},
		{1 << 32, "ff 00 00 00 01 00 00 00 00"}, {1<<32 + 1, "ff 00 00 00 01 00 00 00 01"}, {0x123456789abcdef0, "ff 12 34 56 78 9a bc de f0"},
		{math.MaxInt64, "ff 7f ff ff ff ff ff ff ff"}, {1 << 63, "ff 80 00 00 00 00 00 00 00"}, {math.MaxUint64, "ff ff ff ff ff ff ff ff ff"},
	} {
		if b := Put(x.n); !bytes.Equal(b, unhex(x.b)) {
			t.Errorf("Put of %d: % x, want %s", x.n, b, x.b)
		}
		if n, k, e := Get(unhex(x.b + "fd")); n != x.n || k != len(unhex(x.b)) || e != api.OK {
			t.Errorf("Get of %s and a byte more: %d, %d, %v", x.b, n, k, e)
		}
	}
}

func TestP5_1GetExamples(t *testing.T) {
	for _, x := range []struct {
		b string
		n uint64
		k int
		e api.Errno
	}{
		{"", 0, 0, api.ErrShort},
		{"00", 0, 1, api.OK}, {"05 06", 5, 1, api.OK}, {"fc", 252, 1, api.OK}, {"fc ff ff", 252, 1, api.OK},
		{"fd", 0, 0, api.ErrShort}, {"fd 01", 0, 0, api.ErrShort}, {"fd 00", 0, 0, api.ErrShort},
		{"fd 00 00", 0, 0, api.ErrForm}, {"fd 00 fc", 0, 0, api.ErrForm}, {"fd 00 fc 01", 0, 0, api.ErrForm}, {"fd 00 fd", 253, 3, api.OK},
		{"fd ff ff", 65535, 3, api.OK}, {"fd ff ff 00 00", 65535, 3, api.OK},
		{"fe", 0, 0, api.ErrShort}, {"fe 00 01", 0, 0, api.ErrShort}, {"fe 00 01 00", 0, 0, api.ErrShort}, {"fe 00 00 00", 0, 0, api.ErrShort},
		{"fe 00 00 00 00", 0, 0, api.ErrForm}, {"fe 00 00 00 fd", 0, 0, api.ErrForm}, {"fe 00 00 ff ff", 0, 0, api.ErrForm},
		{"fe 00 01 00 00", 65536, 5, api.OK}, {"fe ff ff ff ff", 1<<32 - 1, 5, api.OK},
		{"ff", 0, 0, api.ErrShort}, {"ff 00 00 00 01 00 00 00", 0, 0, api.ErrShort}, {"ff 00 00 00 00 00 00 00", 0, 0, api.ErrShort},
		{"ff 00 00 00 00 00 00 00 05", 0, 0, api.ErrForm}, {"ff 00 00 00 00 00 00 ff ff", 0, 0, api.ErrForm}, {"ff 00 00 00 00 ff ff ff ff", 0, 0, api.ErrForm},
		{"ff 00 00 00 01 00 00 00 00", 1 << 32, 9, api.OK}, {"ff ff ff ff ff ff ff ff ff", math.MaxUint64, 9, api.OK}, {"ff ff ff ff ff ff ff ff ff ff", math.MaxUint64, 9, api.OK},
	} {
		if n, k, e := Get(unhex(x.b)); n != x.n || k != x.k || e != x.e {
			t.Errorf("Get of %q: %d, %d, %v; want %d, %d, %v", x.b, n, k, e, x.n, x.k, x.e)
		}
	}
	if n, k, e := Get(nil); n != 0 || k != 0 || e != api.ErrShort {
		t.Errorf("Get of nil: %d, %d, %v", n, k, e)
	}
}

func TestP5_1GetAllShortBytes(t *testing.T) {
	for i := range 256 {
		checkGet(t, []byte{byte(i)})
		for j := range 256 {
			checkGet(t, []byte{byte(i), byte(j)})
			checkGet(t, []byte{253, byte(i), byte(j)})
			checkGet(t, []byte{254, 0, byte(i), byte(j), 9})
			checkGet(t, []byte{255, 0, 0, 0, byte(i), byte(j), 9, 9, 9})
		}
	}
}

func TestP5_1Drawn(t *testing.T) {
	draw := rand.New(rand.NewSource(51))
	for _, n := range edges() {
		if !bytes.Equal(Put(n), written(n)) {
			t.Fatalf("Put of %d: % x", n, Put(n))
		}
	}
	for range 100000 {
		n := drawn(draw)
		b := Put(n)
		if !bytes.Equal(b, written(n)) {
			t.Fatalf("Put of %d: % x", n, b)
		}
		for k := range len(b) + 1 {
			checkGet(t, b[:k])
		}
		b[draw.Intn(len(b))] = byte(draw.Intn(256) & draw.Intn(256))
		checkGet(t, b)
		checkGet(t, append(b, byte(draw.Intn(256))))
	}
}

func TestP5_2StreamExamples(t *testing.T) {
	for _, x := range []struct {
		l []api.Record
		b string
	}{
		{nil, ""},
		{[]api.Record{}, ""},
		{[]api.Record{{}}, "00 00"},
		{[]api.Record{rec(0, "05")}, "00 01 05"},
		{[]api.Record{rec(1, "07 08"), rec(254, "")}, "01 02 07 08 fd 00 fe 00"},
		{[]api.Record{{Type: 1}, {Type: 2, Body: []byte{}}}, "01 00 02 00"},
		{[]api.Record{rec(252, "fd"), rec(253, "00 fc"), rec(65536, "ff"), rec(1<<32, "01")}, "fc 01 fd fd 00 fd 02 00 fc fe 00 01 00 00 01 ff ff 00 00 00 01 00 00 00 00 01 01"},
		{[]api.Record{rec(math.MaxUint64-1, "02"), rec(math.MaxUint64, "01")}, "ff ff ff ff ff ff ff ff fe 01 02 ff ff ff ff ff ff ff ff ff 01 01"},
		{[]api.Record{sized(9, 252)}, "09 fc" + strings.Repeat("07", 252)},
		{[]api.Record{sized(9, 253)}, "09 fd 00 fd" + strings.Repeat("07", 253)},
	} {
		b, e := Stream(x.l)
		if e != api.OK || !bytes.Equal(b, unhex(x.b)) {
			t.Errorf("Stream of %v: % x, %v; want %s", x.l, b, e, x.b)
		}
	}
}

func TestP5_2StreamRises(t *testing.T) {
	for _, l := range [][]api.Record{
		{rec(0, ""), rec(0, "")},
		{rec(2, "01"), rec(1, "02")},
		{rec(2, "01"), rec(2, "01")},
		{rec(1, ""), rec(2, ""), rec(2, "")},
		{rec(1, ""), rec(3, ""), rec(2, ""), rec(4, "")},
		{rec(math.MaxUint64, ""), rec(0, "")},
		{rec(math.MaxUint64, ""), rec(math.MaxUint64, "")},
		{rec(1<<63, ""), rec(1<<63-1, "")},
		{rec(1<<32, ""), rec(1, "")},
	} {
		if b, e := Stream(l); e != api.ErrForm || len(b) != 0 {
			t.Errorf("Stream of %v: % x, %v", l, b, e)
		}
	}
}

func TestP5_2StreamLimits(t *testing.T) {
	falling := many(api.MaxRecs + 1)
	falling[9].Type = 3
	for _, x := range []struct {
		name string
		l    []api.Record
		e    api.Errno
	}{
		{"MaxRecs records", many(api.MaxRecs), api.OK},
		{"one record more", many(api.MaxRecs + 1), api.ErrLimit},
		{"many more", many(1000), api.ErrLimit},
		{"too many that do not rise", falling, api.ErrLimit},
		{"not too many that do not rise", falling[:api.MaxRecs], api.ErrForm},
		{"MaxMsg bytes in one", []api.Record{sized(1, api.MaxMsg-4)}, api.OK},
		{"one byte more in one", []api.Record{sized(1, api.MaxMsg-3)}, api.ErrLimit},
		{"a body of MaxMsg bytes", []api.Record{sized(1, api.MaxMsg)}, api.ErrLimit},
		{"a body of one more", []api.Record{sized(1, api.MaxMsg+1)}, api.ErrLimit},
		{"a body of 2^20 bytes", []api.Record{sized(1, 1<<20)}, api.ErrLimit},
		{"MaxMsg bytes, the type in 9", []api.Record{sized(1<<40, api.MaxMsg-12)}, api.OK},
		{"one more, the type in 9", []api.Record{sized(1<<40, api.MaxMsg-11)}, api.ErrLimit},
		{"MaxMsg bytes in two", []api.Record{sized(1, 20000), sized(2, api.MaxMsg-20008)}, api.OK},
		{"one byte more in two", []api.Record{sized(1, 20000), sized(2, api.MaxMsg-20007)}, api.ErrLimit},
		{"MaxMsg bytes, the last one empty", []api.Record{sized(1, api.MaxMsg-6), sized(2, 0)}, api.OK},
		{"too many by the last one, empty", []api.Record{sized(1, api.MaxMsg-5), sized(2, 0)}, api.ErrLimit},
		{"too many bytes that do not rise", []api.Record{sized(2, api.MaxMsg), sized(1, api.MaxMsg)}, api.ErrForm},
		{"too many bytes, not risen behind", []api.Record{sized(1, api.MaxMsg), sized(2, 0), sized(2, 0)}, api.ErrForm},
	} {
		b, e := Stream(x.l)
		if e != x.e || e != api.OK && len(b) != 0 || e == api.OK && !bytes.Equal(b, laid(x.l...)) {
			t.Errorf("%s: %d bytes, %v; want %v", x.name, len(b), e, x.e)
		}
	}
}

func TestP5_2Drawn(t *testing.T) {
	draw := rand.New(rand.NewSource(52))
	for range 20000 {
		checkStream(t, drawnRecords(draw))
	}
}

func TestP5_3RecordsExamples(t *testing.T) {
	for _, x := range []struct {
		b string
		l []api.Record
		e api.Errno
	}{
		{"", nil, api.OK},
		{"00 00", []api.Record{{}}, api.OK},
		{"01 02 07 08 fd 00 fe 00", []api.Record{rec(1, "07 08"), rec(254, "")}, api.OK},
		{"05 01 06 ff ff ff ff ff ff ff ff ff 00", []api.Record{rec(5, "06"), {Type: math.MaxUint64}}, api.OK},
		{"02 00 02 00", nil, api.ErrForm},
		{"02 00 01 00", nil, api.ErrForm},
		{"01 02 07", nil, api.ErrShort},
		{"01 01", nil, api.ErrShort},
		{"01", nil, api.ErrShort},
		{"fd", nil, api.ErrShort}, {"fd 01 00", nil, api.ErrShort},
		{"fd 00 fc 00", nil, api.ErrForm},
		{"01 fd", nil, api.ErrShort}, {"01 fd 01", nil, api.ErrShort},
		{"01 fd 00 01 07", nil, api.ErrForm},
		{"01 fe 00 00 01 00 07", nil, api.ErrForm},
		{"01 fe 00 01 00 00 07", nil, api.ErrShort},
		{"01 fe ff ff ff ff 07", nil, api.ErrShort},
		{"01 ff 00 00 00 01 00 00 00 00 07", nil, api.ErrShort},
		{"01 ff 7f ff ff ff ff ff ff ff 07", nil, api.ErrShort},
		{"01 ff 80 00 00 00 00 00 00 00 07", nil, api.ErrShort},
		{"01 ff 80 00 00 00 00 00 00 01 07", nil, api.ErrShort},
		{"01 ff ff ff ff ff ff ff ff ff 07", nil, api.ErrShort},
		{"01 ff 00 00 00 00 00 00 00 01 07", nil, api.ErrForm},
		{"01 00 02", nil, api.ErrShort},
		{"01 01 02 fd", nil, api.ErrShort},
	} {
		l, e := Records(unhex(x.b))
		if e != x.e || !sameRecords(l, x.l) {
			t.Errorf("Records of %s: %v, %v; want %v, %v", x.b, l, e, x.l, x.e)
		}
	}
	if l, e := Records(nil); e != api.OK || len(l) != 0 {
		t.Errorf("Records of nil: %v, %v", l, e)
	}
}

func TestP5_3FirstError(t *testing.T) {
	full := laid(many(api.MaxRecs)...)
	for _, x := range []struct {
		name string
		b    []byte
		e    api.Errno
	}{
		{"MaxRecs records", full, api.OK},
		{"one more", append(bytes.Clone(full), 64, 0), api.ErrLimit},
		{"one more, its length not there", append(bytes.Clone(full), 64), api.ErrLimit},
		{"one more, its length too long a form", append(bytes.Clone(full), 64, 253, 0, 0), api.ErrLimit},
		{"one more, its body not there", append(bytes.Clone(full), 64, 9), api.ErrLimit},
		{"one more that does not rise", append(bytes.Clone(full), 63, 0), api.ErrForm},
		{"one more, its type not whole", append(bytes.Clone(full), 253, 1), api.ErrShort},
		{"one more, its type too long a form", append(bytes.Clone(full), 253, 0, 64), api.ErrForm},
		{"not risen, its length not there", unhex("02 00 01"), api.ErrForm},
		{"not risen, its body not there", unhex("02 00 01 05"), api.ErrForm},
		{"a wrong length ahead of a type that does not rise", unhex("02 05 01 00"), api.ErrShort},
		{"a type that does not rise ahead of a wrong length", unhex("02 00 02 fd 00 05"), api.ErrForm},
		{"a body that is short, then nothing", unhex("03 02 01"), api.ErrShort},
		{"a short one behind a form too long", unhex("03 fd 00 00 04 fd"), api.ErrForm},
	} {
		l, e := Records(x.b)
		if e != x.e || e != api.OK && len(l) != 0 {
			t.Errorf("%s: %d records, %v; want %v", x.name, len(l), e, x.e)
		}
	}
}

func TestP5_3Size(t *testing.T) {
	most := laid(sized(1, api.MaxMsg-4))
	if l, e := Records(most); e != api.OK || !sameRecords(l, []api.Record{sized(1, api.MaxMsg-4)}) {
		t.Errorf("MaxMsg bytes: %d records, %v", len(l), e)
	}
	for name, b := range map[string][]byte{
		"one byte more":              laid(sized(1, api.MaxMsg-3)),
		"one byte behind":            append(bytes.Clone(most), 2),
		"two records":                laid(sized(1, 20000), sized(2, 20000)),
		"types that do not rise":     laid(sized(2, 20000), sized(1, 20000)),
		"too many records":           laid(append(many(65), sized(99, api.MaxMsg))...),
		"a first byte that is wrong": append([]byte{253, 0, 1}, make([]byte, api.MaxMsg)...),
		"only 255":                   bytes.Repeat([]byte{255}, api.MaxMsg+1),
		"far more":                   make([]byte, 1<<20),
	} {
		if l, e := Records(b); e != api.ErrLimit || len(l) != 0 {
			t.Errorf("%s: %d records, %v", name, len(l), e)
		}
	}
	if l, e := Records(most[:api.MaxMsg-1]); e != api.ErrShort || len(l) != 0 {
		t.Errorf("MaxMsg bytes but the last: %d records, %v", len(l), e)
	}
}

func TestP5_3AllCuts(t *testing.T) {
	b := laid(rec(1, "07 08"), sized(252, 3), sized(253, 254), sized(70000, 2), sized(1<<33, 1), rec(1<<50, ""))
	for k := range len(b) + 1 {
		checkRecords(t, b[:k])
		checkRecords(t, b[k:])
	}
}

func TestP5_3Drawn(t *testing.T) {
	draw := rand.New(rand.NewSource(53))
	for range 20000 {
		b := laid(drawnRecords(draw)...)
		checkRecords(t, b)
		if len(b) == 0 {
			continue
		}
		at := draw.Intn(min(len(b), 40))
		b[at] = byte(draw.Intn(256))
		checkRecords(t, b)
		checkRecords(t, b[:draw.Intn(len(b))])
		checkRecords(t, slices.Delete(b, at, at+1))
	}
	for range 50000 {
		b := make([]byte, draw.Intn(12))
		for i := range b {
			b[i] = byte(draw.Intn(4))
			if draw.Intn(5) == 0 {
				b[i] = byte(250 + draw.Intn(6))
			}
		}
		checkRecords(t, b)
	}
}

func TestP5_4Find(t *testing.T) {
	l := []api.Record{rec(5, "01"), rec(0, "02 03"), rec(5, "04"), rec(7, ""), {Type: math.MaxUint64, Body: []byte{9}}, {Type: 8}}
	for _, x := range []struct {
		t    uint64
		body string
		ok   bool
	}{
		{5, "01", true}, {0, "02 03", true}, {7, "", true}, {8, "", true}, {math.MaxUint64, "09", true},
		{1, "", false}, {6, "", false}, {math.MaxUint64 - 1, "", false}, {1 << 32, "", false},
	} {
		if b, ok := Find(l, x.t); ok != x.ok || !bytes.Equal(b, unhex(x.body)) {
			t.Errorf("Find of %d: % x, %v; want %s, %v", x.t, b, ok, x.body, x.ok)
		}
	}
	for _, none := range [][]api.Record{nil, {}} {
		if b, ok := Find(none, 0); ok || len(b) != 0 {
			t.Errorf("Find among none: % x, %v", b, ok)
		}
	}
	long := many(5000)
	long[4999].Body = []byte{6}
	if b, ok := Find(long, 4999); !ok || !bytes.Equal(b, []byte{6}) {
		t.Errorf("Find among more than MaxRecs: % x, %v", b, ok)
	}
}

func TestP5_4UnknownExamples(t *testing.T) {
	of := func(types ...uint64) []api.Record {
		var l []api.Record
		for _, n := range types {
			l = append(l, api.Record{Type: n})
		}
		return l
	}
	for _, x := range []struct {
		l     []api.Record
		known []uint64
		want  bool
	}{
		{of(1, 4, 5), []uint64{4}, false},
		{of(1, 4, 5), []uint64{6}, true},
		{of(1, 4, 5), nil, true},
		{of(1, 4, 5), []uint64{}, true},
		{of(1, 4, 5), []uint64{1, 5}, true},
		{of(1, 4, 5), []uint64{5, 4, 1}, false},
		{of(1, 4, 5), []uint64{9, 8, 7, 6, 4, 3, 2}, false},
		{of(1, 4, 5), []uint64{9, 8, 7, 6, 5, 3, 2}, true},
		{of(1, 4, 5), []uint64{4, 4, 4}, false},
		{of(1, 3, 5, math.MaxUint64), nil, false},
		{of(0), nil, true}, {of(0), []uint64{0}, false}, {of(0), []uint64{1, 2}, true},
		{of(math.MaxUint64 - 1), nil, true}, {of(math.MaxUint64 - 1), []uint64{math.MaxUint64}, true}, {of(math.MaxUint64 - 1), []uint64{math.MaxUint64 - 1}, false},
		{of(1 << 32), []uint64{0}, true}, {of(1 << 63), []uint64{0}, true},
		{of(8, 2, 8, 6), []uint64{8, 2}, true}, {of(8, 2, 8, 6), []uint64{8, 2, 6}, false},
		{of(2, 4, 6), []uint64{4, 6}, true}, {of(2, 4, 6), []uint64{2, 6}, true}, {of(2, 4, 6), []uint64{2, 4}, true},
		{nil, nil, false}, {of(), []uint64{}, false}, {nil, []uint64{2}, false},
	} {
		if got := Unknown(x.l, x.known...); got != x.want {
			t.Errorf("Unknown of %v with %v known: %v", x.l, x.known, got)
		}
	}
}

func TestP5_4UnknownMany(t *testing.T) {
	var l []api.Record
	var known []uint64
	for i := range uint64(200000) {
		l = append(l, api.Record{Type: 2 * i})
		known = append(known, 2*(200000-i)-2)
	}
	if Unknown(l, known...) {
		t.Error("all of many are known")
	}
	if !Unknown(l, known[1:]...) || !Unknown(l, known[:len(known)-1]...) {
		t.Error("one of many is not known")
	}
}

func TestP5_4UnknownDrawn(t *testing.T) {
	draw := rand.New(rand.NewSource(54))
	for range 20000 {
		var l []api.Record
		var known []uint64
		for range draw.Intn(6) {
			l = append(l, api.Record{Type: uint64(draw.Intn(10))})
		}
		for range draw.Intn(8) {
			known = append(known, uint64(draw.Intn(10)))
		}
		want := slices.ContainsFunc(l, func(r api.Record) bool { return r.Type%2 == 0 && !slices.Contains(known, r.Type) })
		if Unknown(l, known...) != want {
			t.Fatalf("Unknown of %v with %v known: %v", l, known, !want)
		}
	}
}

// roomy is l with room behind its length, which holds what no call may touch.
func roomy[T any](l []T, behind T) []T {
	r := append(make([]T, 0, len(l)+16), l...)
	for i := range r[:cap(r)][len(l):] {
		r[:cap(r)][len(l)+i] = behind
	}
	return r
}

func TestP5_5OnlyRead(t *testing.T) {
	b := roomy(unhex("01 02 07 08 fd 00 fe 00"), 0xaa)
	l := roomy([]api.Record{{Type: 1, Body: roomy(unhex("07 08"), 0xbb)}, {Type: 4, Body: roomy(nil, byte(0xcc))}}, rec(99, "dd"))
	known := roomy([]uint64{9, 4, 7, 2, 1}, 77)
	before := bytes.Clone(b[:cap(b)])
	knownBefore := slices.Clone(known[:cap(known)])
	bodies := [][]byte{bytes.Clone(l[0].Body[:cap(l[0].Body)]), bytes.Clone(l[1].Body[:cap(l[1].Body)])}

	Get(b)
	Get(b[4:])
	Records(b)
	Records(b[:3])
	Stream(l)
	Stream(l[1:])
	Find(l, 1)
	Unknown(l, known...)

	if !bytes.Equal(b[:cap(b)], before) || !slices.Equal(known[:cap(known)], knownBefore) {
		t.Error("bytes or known types are others")
	}
	for i, body := range bodies {
		if !bytes.Equal(l[i].Body[:cap(l[i].Body)], body) {
			t.Errorf("the body of record %d is another", i)
		}
	}
	if !sameRecords(l[:2], []api.Record{rec(1, "07 08"), rec(4, "")}) || !sameRecords(l[:cap(l)][2:], slices.Repeat([]api.Record{rec(99, "dd")}, cap(l)-2)) {
		t.Error("records are others")
	}
}

// fill overwrites bytes, those behind their length too.
func fill(b []byte) {
	for i := range b[:cap(b)] {
		b[:cap(b)][i] = 0xee
	}
}

func TestP5_5NewMemory(t *testing.T) {
	p, q := Put(70000), Put(70000)
	fill(p)
	if !bytes.Equal(q, written(70000)) || !bytes.Equal(Put(70000), written(70000)) {
		t.Error("two answers of Put share memory")
	}

	want := []api.Record{rec(1, "07 08"), rec(2, ""), rec(3, "09"), rec(300, "0a 0b 0c")}
	b := laid(want...)
	l, _ := Records(b)
	m, _ := Records(b)
	for i := range l {
		fill(l[i].Body)
		if !sameRecords(l[i+1:], want[i+1:]) {
			t.Errorf("the body of record %d shares memory with a later one", i)
		}
	}
	if !bytes.Equal(b, laid(want...)) || !sameRecords(m, want) {
		t.Error("records share memory with their bytes, or with another answer")
	}
	fill(b)
	if !sameRecords(m, want) {
		t.Error("records hang on their bytes")
	}

	s, _ := Stream(want)
	again, _ := Stream(want)
	fill(s)
	if !sameRecords(want, m) || !bytes.Equal(again, laid(want...)) {
		t.Error("a stream shares memory with its records, or with another answer")
	}

	x, _ := Find(want, 300)
	y, _ := Find(want, 300)
	fill(x)
	if !sameRecords(want, m) || !bytes.Equal(y, unhex("0a 0b 0c")) {
		t.Error("a found body shares memory with its record, or with another answer")
	}
}

func TestP5_6ThereAndBack(t *testing.T) {
	draw := rand.New(rand.NewSource(56))
	var streams, rows int
	for range 20000 {
		l := drawnRecords(draw)
		b, e := Stream(l)
		if e == api.OK {
			streams++
			if back, e := Records(b); e != api.OK || !sameRecords(back, l) {
				t.Fatalf("Records of the Stream of %v: %v, %v", l, back, e)
			}
		}
		if e != api.OK || len(b) == 0 {
			continue
		}
		b[draw.Intn(min(len(b), 30))] = byte(draw.Intn(256))
		if l, e := Records(b); e == api.OK {
			rows++
			if back, e := Stream(l); e != api.OK || !bytes.Equal(back, b) {
				t.Fatalf("Stream of the Records of % x: % x, %v", b, back, e)
			}
		}
	}
	if streams < 1000 || rows < 1000 {
		t.Fatal("too few of them may be:", streams, rows)
	}
}

func TestP5_6NumbersApart(t *testing.T) {
	draw := rand.New(rand.NewSource(57))
	l := edges()
	for range 1000 {
		l = append(l, drawn(draw))
	}
	for n := range uint64(600) {
		l = append(l, n)
	}
	slices.Sort(l)
	l = slices.Compact(l)
	for i, low := range l {
		a := Put(low)
		for _, high := range l[i+1:] {
			b := Put(high)
			if bytes.HasPrefix(a, b) || bytes.HasPrefix(b, a) {
				t.Fatalf("%d and %d: % x, % x", low, high, a, b)
			}
			if len(a) == len(b) && bytes.Compare(a, b) >= 0 {
				t.Fatalf("%d and %d do not rise: % x, % x", low, high, a, b)
			}
		}
		if n, k, e := Get(a); n != low || k != len(a) || e != api.OK {
			t.Fatalf("Get of Put of %d: %d, %d, %v", low, n, k, e)
		}
	}
}
