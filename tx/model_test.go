package tx

import (
	"crypto/sha256"
	"fmt"
	"math/big"
	"math/rand"
	"regexp"
	"slices"
	"strconv"
	"strings"
	"testing"

	"sluiceway/api"
	"sluiceway/lock"
	"sluiceway/term"
)

// The model: what the chapter's words ask, by other means than the program's. Points are put in order and held against their neighbours; sums are those of big numbers; a text is read by expressions, and by trying every end that a lock or a term might have.

var (
	anID   = regexp.MustCompile(`^[0-9a-f]{64}$`)
	aNum   = regexp.MustCompile(`^(0|[1-9][0-9]*);`)
	aCount = regexp.MustCompile(`^(0|[1-9][0-9]*):`)
)

func rightModel(t api.Tx) bool {
	var points []string
	for _, in := range t.Ins {
		if !anID.MatchString(in.Point.Tx) || in.Point.N < 0 || in.Point.N > 63 || in.Age < 0 || in.Age > 1073741823 {
			return false
		}
		points = append(points, fmt.Sprint(in.Point.Tx, in.Point.N))
	}
	slices.Sort(points)
	if len(slices.Compact(points)) != len(t.Ins) {
		return false
	}
	sum := new(big.Int)
	for _, o := range t.Outs {
		if _, e := lock.Write(o.Lock); e != 0 || o.Value <= 0 {
			return false
		}
		sum.Add(sum, big.NewInt(o.Value))
	}
	return sum.Cmp(big.NewInt(2100000000000000)) <= 0 && len(t.Ins) <= 64 && len(t.Outs) >= 1 && len(t.Outs) <= 64 &&
		t.After >= 0 && t.After <= 1073741823 && t.Tag >= 0 && t.Tag <= 4611686018427387904
}

func wholeModel(s api.Signed) bool {
	for _, w := range s.Wits {
		if len(w.Sigs) > 16 || len(w.Pres) > 16 {
			return false
		}
		for _, x := range slices.Concat(w.Sigs, w.Pres) {
			if term.Size(x) == 0 {
				return false
			}
		}
	}
	return rightModel(s.Tx) && len(s.Tx.Ins) == len(s.Wits)
}

// writtenLock is a lock as a text, whether it is right or not.
func writtenLock(l api.Lock) string {
	switch l.Kind {
	case 1, 2:
		return "?sp"[l.Kind:l.Kind+1] + string(l.Term)
	case 3, 4:
		return fmt.Sprintf("%c%d;", "ao"[l.Kind-3], l.N)
	case 5, 6:
		s := fmt.Sprintf("%c%d:", "&|"[l.Kind-5], len(l.Kids))
		for _, k := range l.Kids {
			s += writtenLock(k)
		}
		return s
	}
	return "?"
}

// written and writtenSigned are texts, of what is right or not.
func written(t api.Tx) string {
	var s strings.Builder
	fmt.Fprintf(&s, "x%d;%d;%d:", t.After, t.Tag, len(t.Ins))
	for _, in := range t.Ins {
		fmt.Fprintf(&s, "%s%d;%d;", in.Point.Tx, in.Point.N, in.Age)
	}
	fmt.Fprintf(&s, "%d:", len(t.Outs))
	for _, o := range t.Outs {
		fmt.Fprintf(&s, "%d;%s", o.Value, writtenLock(o.Lock))
	}
	return s.String()
}

func writtenSigned(x api.Signed) string {
	var s strings.Builder
	s.WriteString(written(x.Tx))
	for _, w := range x.Wits {
		s.WriteString("w")
		for _, l := range [][]api.Term{w.Sigs, w.Pres} {
			fmt.Fprintf(&s, "%d:", len(l))
			for _, t := range l {
				s.WriteString(string(t))
			}
		}
	}
	return s.String()
}

func idModel(t api.Tx) string { return fmt.Sprintf("%x", sha256.Sum256([]byte(written(t)))) }

// A gone is what a taker gives up with.
type gone struct{}

// A taker reads the model's way.
type taker struct{ s string }

func (r *taker) number(form *regexp.Regexp) int64 {
	m := form.FindStringSubmatch(r.s)
	if m == nil {
		panic(gone{})
	}
	n, err := strconv.ParseInt(m[1], 10, 64)
	if err != nil {
		panic(gone{})
	}
	r.s = r.s[len(m[0]):]
	return n
}

func (r *taker) count() int { return int(min(100, r.number(aCount))) }

// upTo takes the shortest piece that is one.
func (r *taker) upTo(isOne func(string) bool) string {
	for end := 1; end <= len(r.s); end++ {
		if piece := r.s[:end]; isOne(piece) {
			r.s = r.s[end:]
			return piece
		}
	}
	panic(gone{})
}

func (r *taker) tx() api.Tx {
	var t api.Tx
	r.upTo(func(s string) bool { return s == "x" })
	t.After, t.Tag = int(r.number(aNum)), r.number(aNum)
	for range r.count() {
		id := r.upTo(anID.MatchString)
		t.Ins = append(t.Ins, api.In{Point: api.Point{Tx: id, N: int(r.number(aNum))}, Age: int(r.number(aNum))})
	}
	for range r.count() {
		v := r.number(aNum)
		l, _ := lock.Read(r.upTo(func(s string) bool { _, e := lock.Read(s); return e == 0 }))
		t.Outs = append(t.Outs, api.Out{Value: v, Lock: l})
	}
	return t
}

func (r *taker) terms() []api.Term {
	var l []api.Term
	for range r.count() {
		l = append(l, api.Term(r.upTo(func(s string) bool { return term.Right(api.Term(s)) })))
	}
	return l
}

func (r *taker) signed() api.Signed {
	x := api.Signed{Tx: r.tx()}
	for range x.Tx.Ins {
		r.upTo(func(s string) bool { return s == "w" })
		x.Wits = append(x.Wits, api.Witness{Sigs: r.terms(), Pres: r.terms()})
	}
	return x
}

func readModel(s string) (x api.Tx, e api.Errno) {
	defer func() {
		if p := recover(); p == (gone{}) {
			x, e = api.Tx{}, 120
		}
	}()
	r := taker{s}
	if x = r.tx(); r.s != "" || !rightModel(x) {
		panic(gone{})
	}
	return x, 0
}

func readSignedModel(s string) (x api.Signed, e api.Errno) {
	defer func() {
		if p := recover(); p == (gone{}) {
			x, e = api.Signed{}, 120
		}
	}()
	r := taker{s}
	if x = r.signed(); r.s != "" || !wholeModel(x) {
		panic(gone{})
	}
	return x, 0
}

// same, sameWit and sameSigned hold nil and empty lists alike.
func sameLock(a, b api.Lock) bool {
	return a.Kind == b.Kind && a.Term == b.Term && a.N == b.N && slices.EqualFunc(a.Kids, b.Kids, sameLock)
}

func sameOut(a, b api.Out) bool { return a.Value == b.Value && sameLock(a.Lock, b.Lock) }

func same(a, b api.Tx) bool {
	return slices.Equal(a.Ins, b.Ins) && slices.EqualFunc(a.Outs, b.Outs, sameOut) && a.After == b.After && a.Tag == b.Tag
}

func sameWit(a, b api.Witness) bool {
	return slices.Equal(a.Sigs, b.Sigs) && slices.Equal(a.Pres, b.Pres)
}

func sameSigned(a, b api.Signed) bool {
	return same(a.Tx, b.Tx) && slices.EqualFunc(a.Wits, b.Wits, sameWit)
}

// short is what is shown of a thing.
func short(v any) string {
	s := fmt.Sprintf("%+v", v)
	if len(s) > 300 {
		return fmt.Sprintf("%q.. (%d)", s[:300], len(s))
	}
	return fmt.Sprintf("%q", s)
}

// drawnNumber is one up to most, as often small as great.
func drawnNumber(draw *rand.Rand, most int64) int64 {
	switch draw.Intn(8) {
	case 0:
		return most
	case 1:
		return 0
	}
	return draw.Int63n(most) >> draw.Intn(63)
}

func drawnLock(draw *rand.Rand, deep int) api.Lock {
	kind := draw.Intn(6)
	if deep == 0 {
		kind = draw.Intn(4)
	}
	var kids []api.Lock
	for range 1 + draw.Intn(3) {
		if kind >= 4 {
			kids = append(kids, drawnLock(draw, deep-1))
		}
	}
	switch kind {
	case 0:
		return lock.Sig([]api.Term{"Pn1;", "Pn12;", "WPn1;Pn2;", "LPn1;t3:;1:", "Pt2:5;"}[draw.Intn(5)])
	case 1:
		return lock.Pre([]api.Term{"Hn1;", "HHn1;", "HT2:n1;t2:w1", "Ht0:"}[draw.Intn(4)])
	case 2:
		return lock.After(int(drawnNumber(draw, 1<<30-1)))
	case 3:
		return lock.Older(int(drawnNumber(draw, 1<<30-1)))
	case 4:
		return lock.All(kids...)
	}
	return lock.Any(kids...)
}

func drawnID(draw *rand.Rand) string {
	id := make([]byte, 64)
	for i := range id {
		id[i] = "0123456789abcdef"[draw.Intn(16)]
	}
	return string(id)
}

// drawn is a right transaction with at most so many Ins and Outs.
func drawn(draw *rand.Rand, most int) api.Tx {
	t := api.Tx{After: int(drawnNumber(draw, 1<<30-1)), Tag: drawnNumber(draw, 1<<62)}
	for range draw.Intn(most + 1) {
		in := api.In{Point: api.Point{Tx: drawnID(draw), N: draw.Intn(64)}, Age: int(drawnNumber(draw, 1<<30-1))}
		if len(t.Ins) > 0 && draw.Intn(3) == 0 {
			in.Point = t.Ins[0].Point
			in.Point.N = (t.Ins[0].Point.N + len(t.Ins)) % 64
		}
		t.Ins = append(t.Ins, in)
	}
	outs := 1 + draw.Intn(most)
	for range outs {
		t.Outs = append(t.Outs, api.Out{Value: 1 + drawnNumber(draw, api.MaxCoin/int64(outs)-1), Lock: drawnLock(draw, draw.Intn(3))})
	}
	return t
}

// drawnTerms are right ones.
func drawnTerms(draw *rand.Rand) []api.Term {
	var l []api.Term
	for range draw.Intn(4) {
		l = append(l, []api.Term{"n1;", "n12;", "t0:", "t3:1:w", "t4:w0:1", "T0:", "T2:n1;t1:;", "Sn1;t1:;", "SVn1;n2;t2:ab", "Bn1;n2;", "Hn3;", "WPn1;Pn2;"}[draw.Intn(12)])
	}
	return l
}

func drawnSigned(draw *rand.Rand, most int) api.Signed {
	x := api.Signed{Tx: drawn(draw, most)}
	for range x.Tx.Ins {
		x.Wits = append(x.Wits, api.Witness{Sigs: drawnTerms(draw), Pres: drawnTerms(draw)})
	}
	return x
}

// spoilt is one that has, most often, something that it should not.
func spoilt(draw *rand.Rand, t api.Tx) api.Tx {
	t.Ins, t.Outs = slices.Clone(t.Ins), slices.Clone(t.Outs)
	times := []int{-1, 0, 1, 1<<30 - 1, 1 << 30, 1<<32 + 1}
	if len(t.Ins) > 0 && draw.Intn(2) == 0 {
		in := &t.Ins[draw.Intn(len(t.Ins))]
		switch draw.Intn(5) {
		case 0:
			in.Age = times[draw.Intn(6)]
		case 1:
			in.Point.N = []int{-1, 0, 63, 64, 1 << 32}[draw.Intn(5)]
		case 2:
			at := draw.Intn(64)
			in.Point.Tx = in.Point.Tx[:at] + []string{"", "00", "A", "g", "/", ":", "f", "\x00", "é"}[draw.Intn(9)] + in.Point.Tx[at+1:]
		case 3:
			*in = t.Ins[0]
		case 4:
			in.Point = t.Ins[len(t.Ins)-1].Point
		}
		return t
	}
	switch o := draw.Intn(8); {
	case o == 0:
		t.After = times[draw.Intn(6)]
	case o == 1:
		t.Tag = []int64{-1, 0, 1 << 62, 1<<62 + 1}[draw.Intn(4)]
	case o == 2:
		t.Outs = nil
	case len(t.Outs) == 0:
	case o < 5:
		t.Outs[draw.Intn(len(t.Outs))].Value = []int64{-1, 0, 1, api.MaxCoin, api.MaxCoin + 1, 1 << 62, -1 << 63, 1<<63 - 1}[draw.Intn(8)]
	case o == 5:
		t.Outs[draw.Intn(len(t.Outs))].Lock = []api.Lock{{}, {Kind: 7}, lock.All(), lock.After(-1), lock.Sig("n1;"), lock.Pre("Pn1;"), lock.Sig("Pn1")}[draw.Intn(7)]
	case o == 6:
		t.Outs = slices.Repeat(t.Outs, 1+draw.Intn(70))
	case o == 7 && len(t.Ins) > 0:
		t.Ins = slices.Repeat(t.Ins, 1+draw.Intn(2))
	}
	return t
}

// spoiltSigned spoils the transaction, or its witnesses.
func spoiltSigned(draw *rand.Rand, x api.Signed) api.Signed {
	if draw.Intn(3) == 0 {
		x.Tx = spoilt(draw, x.Tx)
		return x
	}
	x.Wits = slices.Clone(x.Wits)
	if len(x.Wits) == 0 || draw.Intn(4) == 0 {
		x.Wits = append(x.Wits, api.Witness{})[:draw.Intn(len(x.Wits)+2)]
		return x
	}
	w := &x.Wits[draw.Intn(len(x.Wits))]
	l := [...]*[]api.Term{&w.Sigs, &w.Pres}[draw.Intn(2)]
	if draw.Intn(2) == 0 {
		*l = slices.Repeat([]api.Term{"n1;"}, 14+draw.Intn(5))
		return x
	}
	*l = append(slices.Clone(*l), []api.Term{"", "n1", "n01;", "n1;n2;", "Sn1;", "t0:", "w", "t5:ab", "PVn1;n2;"}[draw.Intn(9)])
	return x
}

// check asks all that can be asked of one transaction.
func check(t *testing.T, x api.Tx) {
	t.Helper()
	right := rightModel(x)
	wantE, text, id, msg, sig, total := api.Errno(120), "", "", api.Term(""), api.Term(""), int64(0)
	if right {
		wantE, text, id = 0, written(x), idModel(x)
		msg = api.Term("t64:" + id)
		sig = "Sn7;" + msg
		for _, o := range x.Outs {
			total += o.Value
		}
	}
	if Right(x) != right {
		t.Fatalf("Right of %s: %t", short(x), !right)
	}
	if s, e := Write(x); s != text || e != wantE {
		t.Fatalf("Write of %s: %s, %d; want %s, %d", short(x), short(s), e, short(text), wantE)
	}
	if s, e := ID(x); s != id || e != wantE {
		t.Fatalf("ID of %s: %s, %d; want %s, %d", short(x), s, e, id, wantE)
	}
	if m, e := Msg(x); m != msg || e != wantE {
		t.Fatalf("Msg of %s: %s, %d; want %s, %d", short(x), m, e, msg, wantE)
	}
	if s, e := Sign(x, "n7;"); s != sig || e != wantE {
		t.Fatalf("Sign of %s: %s, %d; want %s, %d", short(x), s, e, sig, wantE)
	}
	if n := Total(x); n != total {
		t.Fatalf("Total of %s: %d; want %d", short(x), n, total)
	}
	checkText(t, written(x))
}

// checkSigned asks all that can be asked of one with witnesses.
func checkSigned(t *testing.T, x api.Signed) {
	t.Helper()
	whole := wholeModel(x)
	if Whole(x) != whole {
		t.Fatalf("Whole of %s: %t", short(x), !whole)
	}
	wantE, text := api.Errno(120), ""
	if whole {
		wantE, text = 0, writtenSigned(x)
	}
	if s, e := WriteSigned(x); s != text || e != wantE {
		t.Fatalf("WriteSigned of %s: %s, %d; want %s, %d", short(x), short(s), e, short(text), wantE)
	}
	checkText(t, writtenSigned(x))
}

// checkText asks both readers.
func checkText(t *testing.T, s string) {
	t.Helper()
	x, e := Read(s)
	if want, wantE := readModel(s); e != wantE || !same(x, want) {
		t.Fatalf("Read of %s: %s, %d; want %s, %d", short(s), short(x), e, short(want), wantE)
	}
	y, e := ReadSigned(s)
	if want, wantE := readSignedModel(s); e != wantE || !sameSigned(y, want) {
		t.Fatalf("ReadSigned of %s: %s, %d; want %s, %d", short(s), short(y), e, short(want), wantE)
	}
}

// TestDrawn holds drawn transactions, right ones and others, against the model.
func TestDrawn(t *testing.T) {
	right, wrong := 0, 0
	for seed := range int64(6000) {
		draw := rand.New(rand.NewSource(seed))
		x := drawnSigned(draw, 1+draw.Intn(5))
		if !Whole(x) {
			t.Fatalf("Whole of %s: false", short(x))
		}
		for range 1 + draw.Intn(3) {
			check(t, x.Tx)
			checkSigned(t, x)
			if Whole(x) {
				right++
			} else {
				wrong++
			}
			x = spoiltSigned(draw, x)
		}
	}
	if right < 3000 || wrong < 3000 {
		t.Errorf("%d right ones, %d wrong ones: too few", right, wrong)
	}
}

// drawnByte is one that stands in what is written, or one that never does.
func drawnByte(draw *rand.Rand) string {
	const all = "xwspao&|;:0123456789nPHWLVKSTtfA\x00\xff"
	at := draw.Intn(len(all))
	return all[at : at+1]
}

// TestDrawnTexts reads what was written, with some bytes that are others, are gone, or come twice.
func TestDrawnTexts(t *testing.T) {
	right, wrong := 0, 0
	for seed := range int64(12000) {
		draw := rand.New(rand.NewSource(seed))
		s := writtenSigned(drawnSigned(draw, 1+draw.Intn(3)))
		for range 1 + draw.Intn(2) {
			at, size := draw.Intn(len(s)), 1+draw.Intn(3)
			piece := s[at:min(len(s), at+size)]
			switch draw.Intn(4) {
			case 0:
				s = s[:at] + drawnByte(draw) + s[at+1:]
			case 1:
				s = s[:at] + s[at+len(piece):]
			case 2:
				s = s[:at] + piece + s[at:]
			case 3:
				s = s[:at] + drawnByte(draw) + s[at:]
			}
			if s == "" {
				s = "x"
			}
		}
		checkText(t, s)
		if _, e := ReadSigned(s); e == api.OK {
			right++
		} else {
			wrong++
		}
	}
	if right < 1000 || wrong < 1000 {
		t.Errorf("%d right ones, %d wrong ones: too few", right, wrong)
	}
}

// TestDrawnSpends opens drawn locks with drawn witnesses.
func TestDrawnSpends(t *testing.T) {
	open, shut := 0, 0
	for seed := range int64(6000) {
		draw := rand.New(rand.NewSource(seed))
		x := drawnSigned(draw, 3)
		if draw.Intn(4) == 0 {
			x = spoiltSigned(draw, x)
		}
		msg := api.Term("t64:" + idModel(x.Tx))
		for i := range x.Wits {
			secret := []api.Term{"n1;", "n12;", "Vn1;n2;", "Kn1;t3:;1:", "t2:5;"}[draw.Intn(5)]
			x.Wits[i].Sigs = append(slices.Clone(x.Wits[i].Sigs), "S"+secret+msg)
		}
		l, whole := drawnLock(draw, 2), wholeModel(x)
		for i := -2; i < len(x.Tx.Ins)+2; i++ {
			want := whole && i >= 0 && i < len(x.Tx.Ins) && lock.Opens(l, x.Wits[i], msg, x.Tx.After, x.Tx.Ins[i].Age)
			if Opens(x, i, l) != want {
				t.Fatalf("Opens(%s, %d, %s): %t", short(x), i, writtenLock(l), !want)
			}
			if want {
				open++
			} else {
				shut++
			}
		}
	}
	if open < 1500 || shut < 1500 {
		t.Errorf("%d open, %d shut: too few", open, shut)
	}
}
