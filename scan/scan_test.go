package scan_test

import (
	"math"
	"strings"
	"testing"

	"sluiceway/api"
	"sluiceway/lock"
	"sluiceway/scan"
	"sluiceway/term"
)

func TestLetter(t *testing.T) {
	x := scan.Text{Left: "a\x00"}
	for _, want := range []byte{'a', 0, 0, 0} {
		if b := x.Letter(); b != want {
			t.Errorf("%d; want %d", b, want)
		}
	}
	if x.Left != "" {
		t.Errorf("%q is left", x.Left)
	}
}

func TestBytes(t *testing.T) {
	for n, want := range map[int64]string{0: "", 1: "a", 2: "ab", 3: "abc"} {
		x := scan.Text{Left: "abc"}
		if s, ok := x.Bytes(n); s != want || !ok || x.Left != "abc"[n:] {
			t.Errorf("%d: %q, %t, %q is left", n, s, ok, x.Left)
		}
	}
	for _, n := range []int64{-1, 4, math.MinInt64, math.MaxInt64, 1<<32 + 1} {
		x := scan.Text{Left: "abc"}
		if s, ok := x.Bytes(n); s != "" || ok || x.Left != "abc" {
			t.Errorf("%d: %q, %t, %q is left", n, s, ok, x.Left)
		}
	}
}

func TestNumber(t *testing.T) {
	for _, x := range []struct {
		text string
		most int64
		want int64
	}{
		{"0;", 8, 0}, {"8;", 8, 8}, {"9;", 8, -1}, {"10;", 8, -1}, {"18;", 8, -1}, {"0;", 0, 0}, {"1;", 0, -1}, {"9;", 9, 9}, {"10;", 9, -1}, {"10;", 10, 10}, {"19;", 19, 19}, {"20;", 19, -1}, {"99;", 100, 99},
		{"9223372036854775807;", math.MaxInt64, math.MaxInt64}, {"9223372036854775808;", math.MaxInt64, -1}, {"9223372036854775810;", math.MaxInt64, -1}, {"18446744073709551617;", math.MaxInt64, -1}, {"92233720368547758070;", math.MaxInt64, -1},
		{"4611686018427387904;", 1 << 62, 1 << 62}, {"4611686018427387905;", 1 << 62, -1}, {"46116860184273879040;", 1 << 62, -1}, {"18446744073709551617;", 1 << 62, -1}, {"36893488147419103233;", 1 << 62, -1},
		{"", 8, -1}, {";", 8, -1}, {"1", 8, -1}, {"1:", 8, -1}, {"00;", 8, -1}, {"01;", 8, -1}, {"-1;", 8, -1}, {"+1;", 8, -1}, {" 1;", 8, -1}, {"1 ;", 8, -1}, {"/;", 8, -1}, {":;", 8, -1}, {"a;", 8, -1}, {"\x00;", 8, -1}, {strings.Repeat("9", 1000) + ";", math.MaxInt64, -1},
	} {
		for _, rest := range []string{"", ";", "5;", "x"} {
			s := scan.Text{Left: x.text + rest}
			if x.want < 0 {
				if x.text == "" || x.text == "1" {
					continue // with something behind it may be a number
				}
				if n := s.Number(';', x.most); n != -1 || s.Left != x.text+rest {
					t.Errorf("%q up to %d: %d, %q is left", x.text+rest, x.most, n, s.Left)
				}
			} else if n := s.Number(';', x.most); n != x.want || s.Left != rest {
				t.Errorf("%q up to %d: %d, %q is left; want %d", x.text+rest, x.most, n, s.Left, x.want)
			}
		}
	}
	for _, text := range []string{"", "1", "12"} {
		s := scan.Text{Left: text}
		if n := s.Number(';', 99); n != -1 || s.Left != text {
			t.Errorf("%q: %d, %q is left", text, n, s.Left)
		}
	}
}

// rests are what may stand behind a term or a lock.
func rests() []string { return []string{"", ";", ":", "0", "1:", "n1;", "o1;", "w0:0:", "\x00"} }

func TestTerm(t *testing.T) {
	long := "T4:" + strings.Repeat("t4096:"+strings.Repeat(";", 4096), 3) + "t4069:" + strings.Repeat(":", 4069) // as long as may be
	for _, s := range []string{
		"n0;", "n9223372036854775807;", "t0:", "t1:;", "t5:n1;n2", "t4096:" + strings.Repeat("x", 4096), "T0:", "T2:n1;t2:;:", "T32:" + strings.Repeat("T0:", 32), "Pn1;", "Hn1;", "Sn1;t1:;", "Bn1;n2;", "Xn1;n2;", "Dn1;n2;", "Vn1;n2;", "WPn1;Pn2;", "Kn1;n2;", "LPn1;n2;", "SBT1:Hn1;n2;XDn3;n4;Vn5;n6;", strings.Repeat("H", 63) + "n1;", long,
	} {
		if !term.Right(api.Term(s)) {
			t.Fatalf("%.40s: %d bytes, no right term", s, len(s))
		}
		for _, rest := range rests() {
			x := scan.Text{Left: s + rest}
			if piece := x.Term(); piece != s || x.Left != rest {
				t.Errorf("%.40s: %.40s, %.40s is left", s+rest, piece, x.Left)
			}
		}
	}
	for _, s := range []string{"", "x", "n", "n1", "n;", "n01;", "n-1;", "t", "t1:", "t3:ab", "t-1:", "t01:a", "t4097:" + strings.Repeat("x", 4097), "T", "T1:", "T33:" + strings.Repeat("n1;", 33), "H", "P", "Sn1;", "S", "T2:n1;", "\x00", "Hx", "Sn1;x", "t99999999999999999999:x", "T18446744073709551617:n1;", "H" + long, strings.Repeat("H", 1<<20), strings.Repeat("S", 1<<20), "n" + strings.Repeat("1", 1<<20) + ";"} {
		x := scan.Text{Left: s}
		if piece := x.Term(); piece != "" || x.Left != s {
			t.Errorf("%.40s: %.40s", s, piece)
		}
	}
}

func TestLock(t *testing.T) {
	for _, s := range []string{"sPn1;", "pHt3:o1;", "a0;", "o1073741823;", "&1:a1;", "|2:sPn1;&2:pHn2;o6;", "&8:" + strings.Repeat("|1:sWPn1;Pn2;", 8), strings.Repeat("&1:", 63) + "a1;"} {
		if _, e := lock.Read(s); e != api.OK {
			t.Fatalf("%s: no lock", s)
		}
		for _, rest := range rests() {
			x := scan.Text{Left: s + rest}
			if piece := x.Lock(); piece != s || x.Left != rest {
				t.Errorf("%s: %s, %s is left", s+rest, piece, x.Left)
			}
		}
	}
	for _, s := range []string{"", "x", "s", "p", "a", "o", "&", "|", "a1", "a;", "a01;", "a-1;", "sPn1", "s", "p1", "&1:", "&2:a1;", "&9:" + strings.Repeat("a1;", 9), "&-1:", "|01:a1;", "&1:x", "\x00", strings.Repeat("&8:", 1<<20), strings.Repeat("&1:", 1<<20)} {
		x := scan.Text{Left: s}
		if piece := x.Lock(); piece != "" || x.Left != s {
			t.Errorf("%.40s: %.40s", s, piece)
		}
	}
}
