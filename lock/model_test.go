package lock

import (
	"fmt"
	"math/rand"
	"regexp"
	"slices"
	"strconv"
	"strings"
	"testing"

	"sluiceway/api"
	"sluiceway/term"
)

// The model: what the chapter's words ask, by other means than the program's. A lock's parts are laid out in a list; a text is read by trying every end that a term might have; a lock opens if all leaves of one of its ways do.

// laid is a lock's parts, the outermost first; those past 65 are left out.
func laid(l api.Lock) []api.Lock {
	parts := []api.Lock{l}
	for i := 0; i < len(parts) && len(parts) <= 65; i++ {
		for _, k := range parts[i].Kids {
			if len(parts) <= 65 {
				parts = append(parts, k)
			}
		}
	}
	return parts
}

// ops of the terms that each kind may have.
func ops() map[uint8]string { return map[uint8]string{1: "PWL", 2: "H"} }

func rightModel(l api.Lock) bool {
	parts := laid(l)
	for _, p := range parts {
		x, ok := term.Open(p.Term)
		termed := ok && strings.Contains(ops()[p.Kind], string(rune(x.Op)))
		switch {
		case p.Kind < 1 || p.Kind > 6:
			return false
		case termed != (p.Kind <= 2) || !termed && len(p.Term) > 0:
			return false
		case p.N != 0 && (p.Kind < 3 || p.Kind > 4 || p.N < 0 || p.N >= 1<<30):
			return false
		case len(p.Kids) > 8 || (len(p.Kids) > 0) != (p.Kind >= 5):
			return false
		}
	}
	return len(parts) <= 64
}

// written is a lock as a text, whether it is right or not.
func written(l api.Lock) string {
	switch l.Kind {
	case 1:
		return "s" + string(l.Term)
	case 2:
		return "p" + string(l.Term)
	case 3:
		return fmt.Sprintf("a%d;", l.N)
	case 4:
		return fmt.Sprintf("o%d;", l.N)
	case 5, 6:
		s := fmt.Sprintf("%c%d:", "&|"[l.Kind-5], len(l.Kids))
		for _, k := range l.Kids {
			s += written(k)
		}
		return s
	}
	return "?"
}

var (
	timed = regexp.MustCompile(`^([ao])(0|[1-9][0-9]*);`)
	mixed = regexp.MustCompile(`^([&|])([1-8]):`)
)

// taken reads the lock that a text begins with, and tells what stands behind it. How many parts it has is asked elsewhere.
func taken(s string) (api.Lock, string, bool) {
	if m := timed.FindStringSubmatch(s); m != nil {
		n, err := strconv.Atoi(m[2])
		return api.Lock{Kind: uint8(3 + strings.Index("ao", m[1])), N: n}, s[len(m[0]):], err == nil
	}
	if m := mixed.FindStringSubmatch(s); m != nil {
		l := api.Lock{Kind: uint8(5 + strings.Index("&|", m[1]))}
		s = s[len(m[0]):]
		for range m[2][0] - '0' {
			k, left, ok := taken(s)
			if !ok {
				return api.Lock{}, "", false
			}
			l.Kids, s = append(l.Kids, k), left
		}
		return l, s, true
	}
	if s == "" || s[0] != 's' && s[0] != 'p' {
		return api.Lock{}, "", false
	}
	for end := 1; end <= len(s); end++ {
		if t := api.Term(s[1:end]); term.Right(t) {
			return api.Lock{Kind: uint8(1 + strings.Index("sp", s[:1])), Term: t}, s[end:], true
		}
	}
	return api.Lock{}, "", false
}

func readModel(s string) (api.Lock, api.Errno) {
	l, left, ok := taken(s)
	if !ok || left != "" || !rightModel(l) {
		return api.Lock{}, 110
	}
	return l, 0
}

// ways are the rows of leaves of a right lock that open it.
func ways(l api.Lock) [][]api.Lock {
	var all [][]api.Lock
	switch l.Kind {
	case 5:
		all = [][]api.Lock{nil}
		for _, k := range l.Kids {
			var longer [][]api.Lock
			for _, way := range all {
				for _, more := range ways(k) {
					longer = append(longer, slices.Concat(way, more))
				}
			}
			all = longer
		}
	case 6:
		for _, k := range l.Kids {
			all = append(all, ways(k)...)
		}
	default:
		all = [][]api.Lock{{l}}
	}
	return all
}

func opensModel(l api.Lock, w api.Witness, msg api.Term, after, age int) bool {
	if !rightModel(l) || len(w.Sigs) > 16 || len(w.Pres) > 16 {
		return false
	}
	for _, way := range ways(l) {
		shut := 0
		for _, leaf := range way {
			if !leafModel(leaf, w, msg, after, age) {
				shut++
			}
		}
		if shut == 0 {
			return true
		}
	}
	return false
}

func leafModel(l api.Lock, w api.Witness, msg api.Term, after, age int) bool {
	open := false
	switch l.Kind {
	case 1:
		for _, s := range w.Sigs {
			if p, ok := term.Open(s); ok && p.Op == 'S' && p.Kids[1] == msg {
				key, e := term.Pub(p.Kids[0])
				open = open || e == 0 && key == l.Term
			}
		}
	case 2:
		for _, x := range w.Pres {
			open = open || "H"+x == l.Term
		}
	case 3:
		open = after >= l.N
	case 4:
		open = age >= l.N
	}
	return open
}

func keysModel(l api.Lock) []api.Term {
	if !rightModel(l) {
		return nil
	}
	if l.Kind == 1 {
		return []api.Term{l.Term}
	}
	var keys []api.Term
	for _, k := range l.Kids {
		keys = append(keys, keysModel(k)...)
	}
	return keys
}

// same holds nil and empty lists alike.
func same(a, b api.Lock) bool {
	return a.Kind == b.Kind && a.Term == b.Term && a.N == b.N && slices.EqualFunc(a.Kids, b.Kids, same)
}

// short is what is shown of a thing.
func short(v any) string {
	s := fmt.Sprintf("%+v", v)
	if len(s) > 200 {
		return fmt.Sprintf("%q.. (%d)", s[:200], len(s))
	}
	return fmt.Sprintf("%q", s)
}

// drawnTerm is of any op; some are no right terms.
func drawnTerm(draw *rand.Rand) api.Term {
	name := func() api.Term { return api.Term(fmt.Sprintf("n%d;", draw.Intn(3))) }
	switch draw.Intn(12) {
	case 0:
		return name()
	case 1:
		return "WP" + name() + "P" + name()
	case 2:
		return "LP" + name() + "t2:s;"
	case 3:
		return "HT2:" + name() + "t3:o1;"
	case 4:
		return []api.Term{"", "P", "n1", "PVn1;n2;", "Pn01;", "Hn1;n2;", "t9:x", "Pn1;;"}[draw.Intn(8)]
	case 5:
		return "t4:Pn1;"
	case 6:
		return "S" + name() + "t1:m"
	case 7, 8, 9:
		return "P" + name()
	}
	return "H" + name()
}

// fitting is a term that a lock of the kind may have.
func fitting(draw *rand.Rand, kind uint8) api.Term {
	for {
		t := drawnTerm(draw)
		if x, ok := term.Open(t); ok && strings.Contains(ops()[kind], string(rune(x.Op))) {
			return t
		}
	}
}

// drawn is a right lock of at most so many parts.
func drawn(draw *rand.Rand, parts int) api.Lock {
	if parts < 2 || draw.Intn(4) == 0 {
		kind := uint8(1 + draw.Intn(4))
		if kind <= 2 {
			return api.Lock{Kind: kind, Term: fitting(draw, kind)}
		}
		return api.Lock{Kind: kind, N: draw.Intn(1<<30) >> draw.Intn(31)}
	}
	l := api.Lock{Kind: uint8(5 + draw.Intn(2))}
	for left := parts - 1; left > 0 && len(l.Kids) < 1+draw.Intn(8); {
		k := drawn(draw, 1+draw.Intn(left))
		l.Kids = append(l.Kids, k)
		left -= len(laid(k))
	}
	return l
}

// spoilt is a lock one of whose parts has, now and then, something that it should not.
func spoilt(draw *rand.Rand, l api.Lock) api.Lock {
	l.Kids = slices.Clone(l.Kids)
	if len(l.Kids) > 0 && draw.Intn(3) > 0 {
		at := draw.Intn(len(l.Kids))
		l.Kids[at] = spoilt(draw, l.Kids[at])
		return l
	}
	switch draw.Intn(7) {
	case 0:
		l.Kind = uint8(draw.Intn(9))
	case 1:
		l.Term = drawnTerm(draw)
	case 2:
		l.N = []int{-1, 0, 1, 1<<30 - 1, 1 << 30}[draw.Intn(5)]
	case 3:
		l.Kids = append(l.Kids, drawn(draw, 3))
	case 4:
		l.Kids = nil
	case 5:
		l = api.Lock{Kind: uint8(5 + draw.Intn(2)), Kids: slices.Repeat([]api.Lock{l}, 1+draw.Intn(9))}
	}
	return l
}

// check asks all that can be asked of one lock.
func check(t *testing.T, l api.Lock) {
	t.Helper()
	right := rightModel(l)
	if Right(l) != right {
		t.Fatalf("Right of %s: %t", short(l), !right)
	}
	text, wantE := "", api.Errno(110)
	if right {
		text, wantE = written(l), 0
	}
	if s, e := Write(l); s != text || e != wantE {
		t.Fatalf("Write of %s: %s, %d; want %s, %d", short(l), short(s), e, short(text), wantE)
	}
	if keys := Keys(l); !slices.Equal(keys, keysModel(l)) {
		t.Fatalf("Keys of %s: %s", short(l), short(keys))
	}
	checkText(t, written(l))
}

func checkText(t *testing.T, s string) {
	t.Helper()
	l, e := Read(s)
	if want, wantE := readModel(s); e != wantE || !same(l, want) {
		t.Fatalf("Read of %s: %s, %d; want %s, %d", short(s), short(l), e, short(want), wantE)
	}
}

func checkOpens(t *testing.T, l api.Lock, w api.Witness, msg api.Term, after, age int) bool {
	t.Helper()
	open := Opens(l, w, msg, after, age)
	if open != opensModel(l, w, msg, after, age) {
		t.Fatalf("Opens(%s, %s, %s, %d, %d): %t", short(written(l)), short(w), msg, after, age, open)
	}
	return open
}

// TestDrawn holds drawn locks, right ones and others, against the model.
func TestDrawn(t *testing.T) {
	right, wrong := 0, 0
	for seed := range int64(20000) {
		draw := rand.New(rand.NewSource(seed))
		l := drawn(draw, 1+draw.Intn(64)>>draw.Intn(6))
		check(t, l)
		for range draw.Intn(4) {
			l = spoilt(draw, l)
			check(t, l)
			if Right(l) {
				right++
			} else {
				wrong++
			}
		}
	}
	if right < 3000 || wrong < 3000 {
		t.Errorf("%d right ones, %d wrong ones: too few", right, wrong)
	}
}

// drawnByte is one that stands in written locks, or one that never does.
func drawnByte(draw *rand.Rand) string {
	const all = "spao&|;:0123456789nPHWLVKSTt\x00\xff"
	at := draw.Intn(len(all))
	return all[at : at+1]
}

// TestDrawnTexts reads written locks in which some bytes are others, are gone, or come twice.
func TestDrawnTexts(t *testing.T) {
	right, wrong := 0, 0
	for seed := range int64(40000) {
		draw := rand.New(rand.NewSource(seed))
		s := written(drawn(draw, 1+draw.Intn(12)))
		for range 1 + draw.Intn(2) {
			at, size := draw.Intn(len(s)), 1+draw.Intn(3)
			piece := s[at:min(len(s), at+size)]
			switch draw.Intn(4) {
			case 0:
				s = s[:at] + drawnByte(draw) + s[at+1:]
			case 1:
				s = s[:at] + s[at+len(piece):] + " "[:draw.Intn(16)/15]
			case 2:
				s = s[:at] + piece + s[at:]
			case 3:
				s = s[:at] + drawnByte(draw) + s[at:]
			}
			if s == "" {
				s = "s"
			}
		}
		checkText(t, s)
		if _, e := Read(s); e == api.OK {
			right++
		} else {
			wrong++
		}
	}
	if right < 1000 || wrong < 1000 {
		t.Errorf("%d right ones, %d wrong ones: too few", right, wrong)
	}
}

// drawnWitness has signatures and preimages that suit drawn locks now and then.
func drawnWitness(draw *rand.Rand) api.Witness {
	var w api.Witness
	for range draw.Intn(5) {
		secret := []api.Term{"n0;", "n1;", "n2;", "Vn0;n1;", "Vn1;n2;", "Kn1;t2:s;", "Kn2;t2:s;"}[draw.Intn(7)]
		w.Sigs = append(w.Sigs, []api.Term{"S", "S", "S", "B", ""}[draw.Intn(5)]+secret+[]api.Term{"t1:m", "t1:m", "t1:x"}[draw.Intn(3)])
	}
	for range draw.Intn(5) {
		w.Pres = append(w.Pres, []api.Term{"n0;", "n1;", "n2;", "T2:n1;t3:o1;", "T2:n2;t3:o1;", "Hn1;", "", "n"}[draw.Intn(8)])
	}
	if draw.Intn(20) == 0 {
		w.Sigs = slices.Repeat(append(w.Sigs, "Sn1;t1:m"), 4)
		w.Pres = slices.Repeat(append(w.Pres, "n1;"), 4)
	}
	return w
}

// TestDrawnSpends opens drawn locks, and holds what opens them against more and later.
func TestDrawnSpends(t *testing.T) {
	open, shut := 0, 0
	for seed := range int64(40000) {
		draw := rand.New(rand.NewSource(seed))
		l := small(draw, 3)
		if draw.Intn(30) == 0 {
			l = spoilt(draw, l)
		}
		w, after, age := drawnWitness(draw), draw.Intn(6)-1, draw.Intn(6)-1
		if !checkOpens(t, l, w, "t1:m", after, age) {
			shut++
			continue
		}
		open++
		more := api.Witness{Sigs: append(drawnWitness(draw).Sigs, w.Sigs...), Pres: append(drawnWitness(draw).Pres, w.Pres...)}
		if len(more.Sigs) <= 16 && len(more.Pres) <= 16 && !checkOpens(t, l, more, "t1:m", after+draw.Intn(9), age+draw.Intn(9)) {
			t.Fatalf("%s opens with %v, %d, %d, but not with more", written(l), w, after, age)
		}
	}
	if open < 5000 || shut < 5000 {
		t.Errorf("%d open, %d shut: too few", open, shut)
	}
}

// small is a right lock of few parts with small numbers.
func small(draw *rand.Rand, deep int) api.Lock {
	if deep == 0 || draw.Intn(3) == 0 {
		l := drawn(draw, 1)
		if l.Kind >= 3 {
			l.N = draw.Intn(5)
		}
		return l
	}
	l := api.Lock{Kind: uint8(5 + draw.Intn(2))}
	for range 1 + draw.Intn(3) {
		l.Kids = append(l.Kids, small(draw, deep-1))
	}
	return l
}
