package tx

import (
	"math/rand"
	"slices"
	"testing"

	"sluiceway/api"
	"sluiceway/lock"
	"sluiceway/term"
)

// TestP12_8ReadOfWrite: what is written is read as it was; unlike ones are written unlike, and have unlike ids.
func TestP12_8ReadOfWrite(t *testing.T) {
	texts, ids := map[string]api.Tx{}, map[string]api.Tx{}
	for seed := range int64(8000) {
		draw := rand.New(rand.NewSource(seed))
		x := drawnSigned(draw, 1+draw.Intn(64)>>draw.Intn(6))
		s, e := Write(x.Tx)
		if back, e2 := Read(s); e != api.OK || e2 != api.OK || !same(back, x.Tx) {
			t.Fatalf("Read of %s: %s, %d, %d", short(s), short(back), e, e2)
		}
		w, e := WriteSigned(x)
		if back, e2 := ReadSigned(w); e != api.OK || e2 != api.OK || !sameSigned(back, x) {
			t.Fatalf("ReadSigned of %s: %s, %d, %d", short(w), short(back), e, e2)
		}
		id, _ := ID(x.Tx)
		for text, met := range map[string]map[string]api.Tx{s: texts, id: ids} {
			if other, there := met[text]; there && !same(x.Tx, other) {
				t.Fatalf("%s and %s are both %s", short(x.Tx), short(other), short(text))
			}
			met[text] = x.Tx
		}
		unread(t, s[:draw.Intn(len(s))])
		unreadSigned(t, w[:draw.Intn(len(w))])
	}
}

// TestP12_8WriteOfRead: what is read is written just so.
func TestP12_8WriteOfRead(t *testing.T) {
	right := 0
	for seed := range int64(10000) {
		draw := rand.New(rand.NewSource(seed))
		s := []byte(writtenSigned(drawnSigned(draw, 1+draw.Intn(3))))
		s[draw.Intn(len(s))] = drawnByte(draw)[0]
		x, e := ReadSigned(string(s))
		if back, e2 := WriteSigned(x); e != e2 || e == api.OK && back != string(s) {
			t.Fatalf("%q: %s, %d, written %s, %d", s, short(x), e, short(back), e2)
		}
		y, e := Read(string(s))
		if back, e2 := Write(y); e != e2 || e == api.OK && back != string(s) {
			t.Fatalf("%q: %s, %d, written %s, %d", s, short(y), e, short(back), e2)
		}
		if e == api.OK {
			right++
		}
	}
	if right < 300 {
		t.Errorf("%d right ones: too few", right)
	}
}

// TestP12_8OneChange: whatever is changed of a transaction, it is written otherwise, and has another id.
func TestP12_8OneChange(t *testing.T) {
	start := func() api.Tx {
		x := withValues(5, 6)
		x.Ins = manyIns(4)[1:]
		x.Outs[1].Lock = lock.Any(lock.Sig("Pn1;"), lock.Pre("Hn1;"))
		return x
	}
	met := map[string]string{}
	for name, change := range map[string]func(*api.Tx){
		"none": func(x *api.Tx) {}, "After": func(x *api.Tx) { x.After = 79 }, "After, Tag": func(x *api.Tx) { x.After, x.Tag = int(x.Tag), int64(x.After) }, "Tag": func(x *api.Tx) { x.Tag = 99 }, "an In less": func(x *api.Tx) { x.Ins = x.Ins[1:] }, "no In": func(x *api.Tx) { x.Ins = nil }, "Ins' order": func(x *api.Tx) { slices.Reverse(x.Ins) },
		"Point": func(x *api.Tx) { x.Ins[0].Point.Tx = id("3") }, "N": func(x *api.Tx) { x.Ins[0].Point.N = 6 }, "Age": func(x *api.Tx) { x.Ins[0].Age = 11 }, "N and Age": func(x *api.Tx) { x.Ins[0].Point.N, x.Ins[0].Age = 6, 31 },
		"Value": func(x *api.Tx) { x.Outs[0].Value = 55 }, "Outs' order": func(x *api.Tx) { slices.Reverse(x.Outs) }, "an Out less": func(x *api.Tx) { x.Outs = x.Outs[1:] }, "an Out more": func(x *api.Tx) { x.Outs = append(x.Outs, x.Outs[0]) }, "Lock": func(x *api.Tx) { x.Outs[0].Lock = lock.After(1) }, "a Lock's N": func(x *api.Tx) { x.Outs[0].Lock = lock.Older(11) }, "a Lock's Term": func(x *api.Tx) { x.Outs[1].Lock.Kids[0].Term = "Pn11;" }, "a Lock's kind": func(x *api.Tx) { x.Outs[1].Lock.Kind = api.LAll },
	} {
		x := start()
		change(&x)
		s, e := Write(x)
		id, e2 := ID(x)
		if e != api.OK || e2 != api.OK {
			t.Fatalf("%s: %d, %d", name, e, e2)
		}
		for _, text := range []string{s, id} {
			if other, there := met[text]; there {
				t.Errorf("%s and %s: both %s", name, other, short(text))
			}
			met[text] = name
		}
	}
}

// TestP12_8WitnessesChangeNoID: whatever its witnesses, whole ones or not, a transaction's id stays.
func TestP12_8WitnessesChangeNoID(t *testing.T) {
	for seed := range int64(2000) {
		draw := rand.New(rand.NewSource(seed))
		x := drawnSigned(draw, 4)
		want, _ := ID(x.Tx)
		for range 3 {
			for i := range x.Wits {
				x.Wits[i] = api.Witness{Sigs: drawnTerms(draw), Pres: drawnTerms(draw)}
			}
			s, e := WriteSigned(x)
			back, e2 := ReadSigned(s)
			if got, e3 := ID(back.Tx); got != want || e != api.OK || e2 != api.OK || e3 != api.OK {
				t.Fatalf("%s: %s, %d, %d, %d; want %s", short(s), got, e, e2, e3, want)
			}
		}
	}
}

// TestP12_8SignatureOpens: a signature opens a lock that asks for its key, at whichever place, and no lock that asks for another's.
func TestP12_8SignatureOpens(t *testing.T) {
	secrets := []api.Term{"n1;", "n2;", "n12;", "t0:", "Hn1;", "Pn1;", "Dn1;t1:x", "Xn10;n9;", "Vn1;n2;", "Vn2;n1;", "Kn1;t1:x", "Kn1;t1:y", "VKn1;n2;n3;", "T2:n1;n2;", deep(60)}
	for seed := range int64(300) {
		draw := rand.New(rand.NewSource(seed))
		x := drawnSigned(draw, 5)
		for i := range x.Tx.Ins {
			for _, k := range secrets {
				sig, e := Sign(x.Tx, k)
				x.Wits[i].Sigs = append([]api.Term{"Sn3;t0:"}, sig)
				for _, other := range secrets {
					p, e2 := term.Pub(other)
					if e != api.OK || e2 != api.OK || Opens(x, i, lock.Sig(p)) != (k == other) || Opens(x, i, lock.Any(lock.Sig("Pn99;"), lock.Sig(p))) != (k == other) {
						t.Fatalf("%s, signed by %s, asked for %s: %d, %d", short(x), k, p, e, e2)
					}
				}
			}
		}
	}
}
