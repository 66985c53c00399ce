package disk

import (
	"bytes"
	"fmt"
	"math"
	"math/rand"
	"slices"
	"strings"
	"testing"
	"unsafe"

	"sluiceway/api"
)

// is asks for one answer.
func is[T comparable](t *testing.T, what string, have, want T) {
	t.Helper()
	if have != want {
		t.Fatalf("%s: %v, want %v", what, have, want)
	}
}

// The chapter's examples, a row of its table each; the second goes on where the first one ends, and so do the fourth and fifth behind the third.
func TestExamples(t *testing.T) {
	plays(t, 2, `
		create f = OK; create f = ErrThere; create - = ErrArg; write f 0 A = OK; write f 2 A = ErrPage; write f 1 B = OK; write f 2 A = ErrQuota; used = 2
		sync f = OK; write f 0 B = OK; fail 0 0; remove f = ErrCrash; off = true; read f 0 = ErrCrash; on; read f 0 = A`)
	plays(t, 9, `
		create f = OK; write f 0 A = OK; write f 1 B = OK; fail 0 2; sync f = ErrCrash; on; len f = 2; read f 0 = 0
		write f 0 C3 = OK; read f 0 = C3; write f 0 A257 = ErrArg
		rename f g = OK; rename f g = ErrNoFile; rename g g = OK; names = g; steps = 6`)
}

func TestP9_1New(t *testing.T) {
	for _, quota := range []int{math.MinInt, -1, 0, 1, 65536, math.MaxInt} {
		plays(t, quota, `
			names = -; used = 0; steps = 0; off = false; len f = ErrNoFile; read f 0 = ErrNoFile
			write f 0 A = ErrNoFile; sync f = ErrNoFile; rename f g = ErrNoFile; remove f = ErrNoFile; steps = 0`)
	}
}

func TestP9_1NewDisksAreTheirOwn(t *testing.T) {
	a, b := New(1), New(1)
	play(t, a, "create f = OK; write f 0 A = OK; fail 0 0; sync f = ErrCrash; off = true")
	play(t, b, "names = -; used = 0; steps = 0; off = false; create f = OK; len f = 0; write f 0 B = OK")
}

func TestP9_1Quota(t *testing.T) {
	for _, x := range []struct{ quota, pages int }{
		{math.MinInt, 0}, {-65536, 0}, {-1, 0}, {0, 0}, {1, 1}, {2, 2}, {255, 255}, {65535, 65535}, {65536, 65536}, {65537, 65536}, {1 << 20, 65536}, {math.MaxInt, 65536},
	} {
		d := New(x.quota)
		d.Create("f")
		n := 0
		for ; n <= x.pages && d.Write("f", n, nil) == api.OK; n++ {
		}
		is(t, fmt.Sprint("pages of quota ", x.quota), n, x.pages)
		is(t, "one more", d.Write("f", n, nil), api.ErrQuota)
		is(t, "used", d.Used(), x.pages)
		is(t, "steps", d.Steps(), x.pages+1)
	}
}

func TestP9_1NilDisk(t *testing.T) {
	var d *Disk
	for _, name := range []string{"f", "", strings.Repeat("x", 101)} {
		for _, page := range []int{-1, 0, 1, math.MaxInt} {
			is(t, "Write", d.Write(name, page, make([]byte, 257)), api.ErrNil)
			is(t, "Write", d.Write(name, page, nil), api.ErrNil)
			is(t, "Read", readOf(d, name, page), "ErrNil")
		}
		is(t, "Create", d.Create(name), api.ErrNil)
		is(t, "Sync", d.Sync(name), api.ErrNil)
		is(t, "Rename", d.Rename(name, "g"), api.ErrNil)
		is(t, "Rename", d.Rename("g", name), api.ErrNil)
		is(t, "Remove", d.Remove(name), api.ErrNil)
		is(t, "Len", lenOf(d, name), "ErrNil")
	}
	d.Fail(0, 1)
	d.Fail(-1, 1)
	d.On()
	is(t, "Names", len(d.Names()), 0)
	is(t, "Used", d.Used(), 0)
	is(t, "Steps", d.Steps(), 0)
	is(t, "Off", d.Off(), false)
	is(t, "Copy", d.Copy(), nil)
}

// A disk that is made by hand is one of quota 0.
func TestP9_1ZeroDisk(t *testing.T) {
	script := `
		names = -; used = 0; steps = 0; off = false; on; remove f = ErrNoFile; sync f = ErrNoFile; rename f g = ErrNoFile; len f = ErrNoFile
		create f = OK; len f = 0; write f 0 A = ErrQuota; sync f = OK; rename f g = OK; names = g; steps = 3
		fail 0 1; remove g = ErrCrash; off = true; on; remove g = OK; names = -; steps = 4`
	play(t, &Disk{}, script)
	play(t, New(0), script)
	play(t, (&Disk{}).Copy(), script)
	crash(&Disk{}, 0)
}

func TestP9_1Off(t *testing.T) {
	d, m := plays(t, 2, "create f = OK; create g = OK; write f 0 A = OK; sync f = OK; write f 0 B = OK; write g 0 C = OK; fail 0 0; sync f = ErrCrash")
	for range 2 { // nothing of it switches the disk on
		for _, x := range []calls{d, m, d.Copy()} {
			play(t, x, `
				off = true; names = -
				create h = ErrCrash; create f = ErrCrash; create - = ErrCrash; create x101 = ErrCrash
				write f 0 C = ErrCrash; write f 1 C = ErrCrash; write f 2 C = ErrCrash; write f -1 C = ErrCrash; write f 0 C257 = ErrCrash; write h 0 C = ErrCrash
				sync f = ErrCrash; sync h = ErrCrash; sync - = ErrCrash
				rename f h = ErrCrash; rename f g = ErrCrash; rename f f = ErrCrash; rename h f = ErrCrash; rename f - = ErrCrash; rename f x101 = ErrCrash
				remove f = ErrCrash; remove h = ErrCrash; remove - = ErrCrash
				read f 0 = ErrCrash; read f 9 = ErrCrash; read f -1 = ErrCrash; read h 0 = ErrCrash
				len f = ErrCrash; len h = ErrCrash; len - = ErrCrash
				off = true; names = -; used = 2; steps = 6`)
		}
	}
	play(t, d, "on; off = false; names = f,g; pages f = A; pages g = -; used = 1; steps = 6")
}

func TestP9_1OffFullDisk(t *testing.T) {
	d := New(0)
	for k := range 256 {
		is(t, "Create", d.Create(fmt.Sprint(k)), api.OK)
	}
	play(t, d, "fail 0 0; create one = ErrLimit; off = false; remove 0 = ErrCrash; create one = ErrCrash; create x101 = ErrCrash; create 1 = ErrCrash; write 0 0 A = ErrCrash; on; create one = ErrLimit; write 0 0 A = ErrQuota")
}

func TestP9_2CreateNames(t *testing.T) {
	plays(t, 9, `
		create - = ErrArg; create x101 = ErrArg; create x1000 = ErrArg; steps = 0; names = -
		create a = OK; create x100 = OK; create x99 = OK; steps = 3; len x100 = 0; len x99 = 0; len a = 0; len x101 = ErrNoFile; len - = ErrNoFile
		create a = ErrThere; create x100 = ErrThere; create x99 = ErrThere; create - = ErrArg; create x101 = ErrArg; steps = 3; used = 0`)
	d := New(9)
	for k, name := range []string{"\x00", "\xff\xfe", " ", "\x00\x00", "a/b", "..", "\n", strings.Repeat("\xff", 100), "ä", "Ä"} {
		is(t, "Create", d.Create(name), api.OK)
		is(t, "Create again", d.Create(name), api.ErrThere)
		is(t, "Len", lenOf(d, name), "0")
		is(t, "files", len(d.Names()), k+1)
	}
}

func TestP9_2CreateHasNoPages(t *testing.T) {
	plays(t, 9, `
		create f = OK; write f 0 A = OK; sync f = OK; write f 1 B = OK; create f = ErrThere; pages f = A,B
		remove f = OK; used = 0; create f = OK; pages f = -; used = 0; write f 1 C = ErrPage; read f 0 = ErrPage
		fail 0 0xffffffffffffffff; sync f = ErrCrash; on; pages f = -; names = f`)
}

func TestP9_2MaxFiles(t *testing.T) {
	d, m := New(3), newModel(3)
	for k := range 256 {
		is(t, "Create", d.Create(fmt.Sprint(k)), api.OK)
		is(t, "Create", m.Create(fmt.Sprint(k)), api.OK)
	}
	for _, x := range []calls{m, d} {
		play(t, x, `
			create one = ErrLimit; create 0 = ErrThere; create 255 = ErrThere; create - = ErrArg; create x101 = ErrArg; create x100 = ErrLimit; steps = 256
			rename 0 one = OK; create two = ErrLimit; create 0 = ErrLimit; create one = ErrThere   // no more than there were
			rename one 1 = OK; create two = OK; create three = ErrLimit                          // one less
			remove 7 = OK; create three = OK; create 7 = ErrLimit; steps = 261
			fail 0 0; create 7 = ErrLimit; create 8 = ErrThere; off = false; remove 8 = ErrCrash; on; create 7 = ErrLimit; remove 8 = OK; create 7 = OK; create 8 = ErrLimit`)
		is(t, "files", len(x.Names()), 256)
	}
	alike(t, "256 files", d, m)
}

func TestP9_2Remove(t *testing.T) {
	plays(t, 3, `
		remove f = ErrNoFile; remove - = ErrNoFile; remove x101 = ErrNoFile; steps = 0
		create f = OK; create g = OK; write f 0 A = OK; write f 1 B = OK; write g 0 C = OK; write g 1 D = ErrQuota; sync f = OK
		remove f = OK; names = g; used = 1; pages f = ErrNoFile; read f 0 = ErrNoFile; sync f = ErrNoFile; write f 0 A = ErrNoFile; rename f h = ErrNoFile; remove f = ErrNoFile
		write g 1 D = OK; pages g = C,D; steps = 8
		fail 0 0xffffffffffffffff; remove g = ErrCrash; on; names = g; pages g = C,D; remove g = OK; names = -; used = 0`)
}

func TestP9_2RenameErrors(t *testing.T) {
	plays(t, 3, `
		rename f g = ErrNoFile; rename f f = ErrNoFile; rename - g = ErrNoFile; rename f - = ErrNoFile; rename f x101 = ErrNoFile; rename x101 - = ErrNoFile; rename - - = ErrNoFile; steps = 0
		create f = OK; rename f - = ErrArg; rename f x101 = ErrArg; rename f x1000 = ErrArg; rename g f = ErrNoFile; rename g - = ErrNoFile; names = f; steps = 1
		rename f x100 = OK; rename x100 f = OK; rename f a = OK; names = a; steps = 4`)
}

func TestP9_2Rename(t *testing.T) {
	plays(t, 4, `
		create f = OK; create g = OK; write f 0 A = OK; sync f = OK; write f 1 B = OK; write g 0 C = OK; sync g = OK; write g 0 D = OK
		rename f h = OK; names = g,h; pages h = A,B; pages g = D; pages f = ErrNoFile; write f 0 X = ErrNoFile; create f = OK; pages f = -
		write h 0 E = OK; pages h = E,B; remove f = OK
		rename h g = OK; names = g; pages g = E,B; pages h = ErrNoFile; used = 2          // the other one is gone, with its pages
		rename g g = OK; names = g; pages g = E,B; used = 2; steps = 14
		write g 2 F = OK; write g 3 G = OK; write g 4 H = ErrQuota`)
}

// Names that go round: each file has kept its own pages, and what of them is settled.
func TestP9_2RenameRound(t *testing.T) {
	script := `
		create f = OK; write f 0 A = OK; sync f = OK; write f 0 B = OK; create g = OK; write g 0 C = OK; sync g = OK; write g 0 D = OK
		rename f t = OK; rename g f = OK; rename t g = OK; names = f,g; pages f = D; pages g = B`
	d, _ := plays(t, 4, script)
	for keep, want := range []string{"C A", "C B", "D A", "D B"} {
		c := d.Copy()
		crash(c, uint64(keep))
		is(t, fmt.Sprint("keep ", keep), pagesOf(c, "f")+" "+pagesOf(c, "g"), want)
	}
}

func TestP9_3WriteErrors(t *testing.T) {
	plays(t, 1, `
		write f 0 A = ErrNoFile; write f 0 A257 = ErrNoFile; write f -1 A257 = ErrNoFile; write f 7 A = ErrNoFile; write - 0 A = ErrNoFile; write x101 0 A257 = ErrNoFile
		create f = OK
		write f -1 A257 = ErrArg; write f 0 A257 = ErrArg; write f 1 A257 = ErrArg; write f 9 A1000 = ErrArg
		write f -1 A = ErrPage; write f 1 A = ErrPage; write f -9223372036854775808 A = ErrPage; write f 9223372036854775807 A = ErrPage; used = 0; steps = 1
		write f 0 A = OK
		write f 1 A257 = ErrArg; write f 0 A257 = ErrArg; write f 2 A = ErrPage; write f -1 A = ErrPage; write f 1 A = ErrQuota; write f 1 A0 = ErrQuota; write f 9223372036854775807 A = ErrPage
		pages f = A; used = 1; steps = 2
		write f 0 B = OK; pages f = B; steps = 3; used = 1`)
	plays(t, 0, "create f = OK; write f 0 A = ErrQuota; write f 1 A = ErrPage; write f -1 A = ErrPage; write f 0 A257 = ErrArg; write f 0 A0 = ErrQuota; pages f = -; sync f = OK")
}

func TestP9_3WriteBytes(t *testing.T) {
	d, _ := plays(t, 9, `
		create f = OK; write f 0 A0 = OK; read f 0 = 0; write f 1 B1 = OK; read f 1 = B1; write f 2 C255 = OK; read f 2 = C255; write f 3 D256 = OK; read f 3 = D; write f 4 E257 = ErrArg
		pages f = 0,B1,C255,D; used = 4
		write f 3 E3 = OK; read f 3 = E3; write f 3 F0 = OK; read f 3 = 0; write f 1 G255 = OK; pages f = 0,G255,C255,0; used = 4`)
	for _, b := range [][]byte{nil, {}, make([]byte, 0, 999)} {
		play(t, d, "write f 0 A = OK; read f 0 = A")
		is(t, "Write of no bytes", d.Write("f", 0, b), api.OK)
		play(t, d, "read f 0 = 0")
	}
	all := make([]byte, 256)
	for i := range all {
		all[i] = byte(255 - i)
	}
	is(t, "Write of all bytes", d.Write("f", 4, all), api.OK)
	for range 2 {
		if b, e := d.Read("f", 4); e != api.OK || !bytes.Equal(b, all) {
			t.Fatalf("%x, %d", b, e)
		}
		d.Sync("f")
		crash(d, 0)
	}
}

func TestP9_3QuotaOfAllFiles(t *testing.T) {
	plays(t, 3, `
		create f = OK; create g = OK; create h = OK; write f 0 A = OK; write g 0 B = OK; write f 1 C = OK; used = 3
		write f 2 D = ErrQuota; write g 1 D = ErrQuota; write h 0 D = ErrQuota; write h 1 D = ErrPage; write f 1 D = OK; write g 0 D = OK; used = 3
		sync f = OK; sync g = OK; write h 0 D = ErrQuota
		remove g = OK; used = 2; write h 0 D = OK; used = 3; write h 1 D = ErrQuota
		rename h f = OK; used = 1; pages f = D; write f 1 A = OK; write f 2 A = OK; write f 3 A = ErrQuota`)
}

// Pages that were lost leave their room.
func TestP9_3QuotaBehindFailure(t *testing.T) {
	plays(t, 2, `
		create f = OK; create g = OK; write f 0 A = OK; write f 1 B = OK; write g 0 C = ErrQuota
		fail 0 1; sync f = ErrCrash; used = 2; on; used = 1; pages f = A; write g 0 C = OK; write g 1 D = ErrQuota; write f 1 D = ErrQuota; used = 2
		fail 0 0; sync g = ErrCrash; on; used = 1; write f 1 D = OK; write f 2 E = ErrQuota`)
}

func TestP9_3SyncReadLen(t *testing.T) {
	plays(t, 3, `
		sync f = ErrNoFile; sync - = ErrNoFile; sync x101 = ErrNoFile; read f 0 = ErrNoFile; read f -1 = ErrNoFile; read - 0 = ErrNoFile; len f = ErrNoFile; len - = ErrNoFile; len x101 = ErrNoFile; steps = 0
		create f = OK; len f = 0; read f 0 = ErrPage; read f -1 = ErrPage; read f 1 = ErrPage; sync f = OK; sync f = OK; len f = 0; steps = 3
		write f 0 A = OK; len f = 1; read f 0 = A; read f 1 = ErrPage; read f -1 = ErrPage; read f 9223372036854775807 = ErrPage; read f -9223372036854775808 = ErrPage
		write f 1 B = OK; len f = 2; read f 0 = A; read f 1 = B; read f 2 = ErrPage
		sync f = OK; len f = 2; pages f = A,B; write f 0 C = OK; pages f = C,B; sync g = ErrNoFile; steps = 7`)
}

func TestP9_4NamesRise(t *testing.T) {
	d := New(0)
	want := []string{"\x00", "\x00\x00", "\x01", " ", "0", "10", "9", "A", "B", "Z", "a", "aa", "ab", "b", "z", "\x7f", "\xc3", "ä", "\xff", "\xff\x00"}
	slices.Sort(want)
	for _, k := range rand.New(rand.NewSource(4)).Perm(len(want)) {
		is(t, "Create", d.Create(want[k]), api.OK)
	}
	for range 20 {
		if l := d.Names(); !slices.Equal(l, want) {
			t.Fatalf("names: %q, want %q", l, want)
		}
	}
	is(t, "bytes, not letters", want[0] == "\x00" && want[4] == "0" && want[5] == "10" && want[19] == "\xff\x00", true)
	d.Rename("A", "zz")
	d.Remove("\x00")
	if l := d.Names(); len(l) != 19 || l[0] != "\x00\x00" || slices.Contains(l, "A") || l[slices.Index(l, "z")+1] != "zz" {
		t.Fatalf("names: %q", l)
	}
}

func TestP9_4UsedAndSteps(t *testing.T) {
	plays(t, 9, `
		steps = 0; create f = OK; steps = 1; used = 0; write f 0 A = OK; steps = 2; used = 1; write f 0 B = OK; steps = 3; used = 1; sync f = OK; steps = 4; used = 1
		sync f = OK; steps = 5; rename f g = OK; steps = 6; used = 1; rename g g = OK; steps = 7; used = 1; create f = OK; write f 0 A = OK; write f 1 A = OK; steps = 10; used = 3
		remove g = OK; steps = 11; used = 2; read f 0 = A; len f = 2; names = f; off = false; steps = 11
		create f = ErrThere; create - = ErrArg; write f 3 A = ErrPage; sync g = ErrNoFile; rename f - = ErrArg; remove g = ErrNoFile; steps = 11
		fail 1 0; steps = 11; on; steps = 11; sync f = OK; steps = 12; sync f = ErrCrash; steps = 12; used = 2; sync f = ErrCrash; steps = 12; on; steps = 12; used = 2; sync f = OK; steps = 13`)
}

// Each kind of step, when it is the one that fails, has not happened, and what is kept is what was there ahead of it.
func TestP9_5EachStepFails(t *testing.T) {
	script := "create f = OK; create g = OK; write f 0 A = OK; write f 1 B = OK; sync f = OK; write f 0 C = OK; write g 0 D = OK; write f 1 E = OK"
	for _, call := range []string{"create h", "write f 0 X", "write f 2 X", "write g 0 X0", "write g 1 X", "sync f", "sync g", "rename f h", "rename f g", "rename g f", "rename f f", "remove f", "remove g"} {
		for keep, want := range []string{"A,B -", "C,B -", "A,B D", "C,B D", "A,E -", "C,E -", "A,E D", "C,E D", "A,B -"} {
			d, _ := plays(t, 9, script+fmt.Sprintf("; fail 0 %d; off = false; %s = ErrCrash; off = true; used = 3; names = -; on; off = false; names = f,g; steps = 8", keep, call))
			is(t, fmt.Sprintf("%s fails, keep %d", call, keep), pagesOf(d, "f")+" "+pagesOf(d, "g"), want)
			is(t, call+" behind it", answer(d, call), map[bool]string{false: "OK", true: "ErrPage"}[call == "write g 1 X" && pagesOf(d, "g") == "-"])
		}
	}
}

func TestP9_5WhichStepFails(t *testing.T) {
	steps := []string{"create f", "write f 0 A", "sync f", "write f 1 B", "rename f g", "write g 0 C", "remove g", "create g"}
	for _, x := range []struct{ in, happen int }{{0, 0}, {1, 1}, {2, 2}, {3, 3}, {4, 4}, {5, 5}, {6, 6}, {7, 7}, {8, 8}, {math.MaxInt, 8}, {-1, 0}, {-5, 0}, {math.MinInt, 0}} {
		d, m := New(9), newModel(9)
		d.Fail(x.in, 1)
		m.Fail(x.in, 1)
		n := 0
		for ; n < len(steps); n++ {
			a, b := answer(d, steps[n]), answer(m, steps[n])
			is(t, steps[n], a, b)
			if a != "OK" {
				is(t, steps[n], a, "ErrCrash")
				break
			}
		}
		is(t, fmt.Sprintf("steps that happen ahead of Fail(%d)", x.in), n, x.happen)
		is(t, "Steps", d.Steps(), n)
		is(t, "Off", d.Off(), n < len(steps))
		alike(t, fmt.Sprint("Fail of ", x.in), d, m)
	}
}

// Calls that answer an error, or only ask, are no steps: no failure comes to pass at them, and none comes nearer.
func TestP9_5ErrorsAreNoSteps(t *testing.T) {
	none := `
		create - = ErrArg; create x101 = ErrArg; create f = ErrThere; write h 0 A = ErrNoFile; write f 0 A257 = ErrArg; write f 3 A = ErrPage; write f 2 A = ErrQuota; write f -1 A = ErrPage
		sync h = ErrNoFile; rename h f = ErrNoFile; rename f - = ErrArg; rename f x101 = ErrArg; remove h = ErrNoFile; remove - = ErrNoFile
		read f 0 = A; read f 2 = ErrPage; read h 0 = ErrNoFile; len f = 2; len h = ErrNoFile; names = f; used = 2; off = false; on; off = false
		`
	first := "create f = OK; write f 0 A = OK; write f 1 B = OK"
	plays(t, 2, first+"; fail 0 3\n"+none+"sync f = ErrCrash; off = true; on\n"+none+"sync f = OK")
	plays(t, 2, first+"; fail 2 3\n"+none+"sync f = OK\n"+none+"rename f f = OK\n"+none+"write f 0 C = ErrCrash; off = true; on\n"+none+"write f 0 A = OK; steps = 6")
}

func TestP9_5FailInTheOthersPlace(t *testing.T) {
	first := "create f = OK; write f 0 A = OK; "
	plays(t, 9, first+"fail 0 0; fail 1 1; write f 1 B = OK; sync f = ErrCrash; on; pages f = A")
	plays(t, 9, first+"fail 1 1; fail 0 0; write f 1 B = ErrCrash; on; pages f = -")
	plays(t, 9, first+"fail 5 0; write f 1 B = OK; fail -3 2; sync f = ErrCrash; on; pages f = 0,B")
	plays(t, 9, first+"fail 1 0; sync f = OK; fail 1 3; write f 0 B = OK; write f 0 C = ErrCrash; on; pages f = B") // counted anew
	plays(t, 9, first+"fail 0 0; fail 0 1; fail 0 2; fail 0 1; remove f = ErrCrash; on; pages f = A")
}

func TestP9_5FailWhileOff(t *testing.T) {
	plays(t, 9, `
		create f = OK; write f 0 A = OK; write f 1 B = OK; fail 0 1; sync f = ErrCrash
		fail 0 2; fail 7 3; fail -1 0; off = true; read f 0 = ErrCrash
		on; pages f = A; write f 1 C = OK; sync f = OK; sync f = OK; off = false; pages f = A,C; steps = 6`)
}

func TestP9_5OnWhileOn(t *testing.T) {
	plays(t, 9, `
		on; off = false; create f = OK; write f 0 A = OK; on; pages f = A
		fail 1 2; on; on; write f 1 B = OK; on; pages f = A,B; off = false
		sync f = ErrCrash; off = true; on; pages f = 0,B; on; pages f = 0,B; off = false; steps = 3`)
	plays(t, 9, "create f = OK; write f 0 A = OK; on; fail 0 0; sync f = ErrCrash; on; pages f = -") // On has not settled it
}

// Behind On no failure is set, and numbers begin at 0 anew.
func TestP9_5OnceMore(t *testing.T) {
	plays(t, 9, `
		create f = OK; write f 0 A = OK; write f 1 B = OK; write f 2 C = OK; fail 0 5; create g = ErrCrash; on; pages f = A,0,C; names = f
		create g = OK; write g 0 D = OK; write f 1 E = OK; sync g = OK; write g 0 F = OK; off = false
		fail 0 2; create h = ErrCrash; on; pages f = A,0,C; pages g = F      // E is 0, F is 1
		write f 0 G = OK; fail 0 1; remove f = ErrCrash; on; pages f = G,0,C; pages g = F
		write f 0 H = OK; write f 1 I = OK; fail 0 0; remove f = ErrCrash; on; pages f = G,0,C; pages g = F`)
}

// behind tells files f, g and h of disks that are like d, behind failures with each keep.
func behind(t *testing.T, d *Disk, want map[uint64]string) {
	t.Helper()
	for keep, w := range want {
		c := d.Copy()
		crash(c, keep)
		is(t, fmt.Sprintf("behind a failure with %b", keep), pagesOf(c, "f")+" "+pagesOf(c, "g")+" "+pagesOf(c, "h"), w)
	}
}

func TestP9_5NumbersOfSeveralFiles(t *testing.T) {
	d, _ := plays(t, 9, "create h = OK; create g = OK; create f = OK; write f 0 A = OK; write h 0 B = OK; write f 1 C = OK; write g 0 D = OK; write f 0 E = OK; write h 0 F = OK; write h 1 G = OK")
	behind(t, d, map[uint64]string{
		0: "- - -", 0b1: "A - -", 0b10: "- - B", 0b100: "0,C - -", 0b1000: "- D -", 0b10000: "E - -", 0b100000: "- - F", 0b1000000: "- - 0,G", 0b10000000: "- - -",
		0b10110: "E,C - B", 0b0101: "A,C - -", 0b1100011: "A - F,G", 0b1000010: "- - B,G", 0b1111111: "E,C D F,G", math.MaxUint64: "E,C D F,G", 1 << 63: "- - -",
	})
}

// A file that is synced takes its writes out of the row, and the others move up.
func TestP9_5NumbersBehindSync(t *testing.T) {
	d, _ := plays(t, 9, "create f = OK; create g = OK; create h = OK; write f 0 A = OK; write g 0 B = OK; write f 1 C = OK; write h 0 D = OK; sync f = OK; write f 0 E = OK; write g 1 F = OK; sync h = OK; write h 0 G = OK")
	behind(t, d, map[uint64]string{0: "A,C - D", 1: "A,C B D", 2: "E,C - D", 4: "A,C 0,F D", 8: "A,C - G", 15: "E,C B,F G", 5: "A,C B,F D", 16: "A,C - D"})
	play(t, d, "sync g = OK")
	behind(t, d, map[uint64]string{0: "A,C B,F D", 1: "E,C B,F D", 2: "A,C B,F G", 3: "E,C B,F G", 12: "A,C B,F D"})
}

// A file that is gone takes its writes out of the row; one that has another name keeps its own.
func TestP9_5NumbersOfFilesThatMove(t *testing.T) {
	d, _ := plays(t, 9, "create f = OK; create g = OK; write f 0 A = OK; write g 0 B = OK; write f 1 C = OK; write g 1 D = OK; remove f = OK; create h = OK; write h 0 E = OK")
	behind(t, d, map[uint64]string{1: "ErrNoFile B -", 2: "ErrNoFile 0,D -", 4: "ErrNoFile - E", 3: "ErrNoFile B,D -", 7: "ErrNoFile B,D E"})
	play(t, d, "create f = OK; write f 0 F = OK")
	behind(t, d, map[uint64]string{1: "- B -", 4: "- - E", 8: "F - -", 15: "F B,D E"})
	play(t, d, "rename g t = OK; rename h g = OK; rename t h = OK; write g 0 G = OK")
	behind(t, d, map[uint64]string{0: "- - -", 1: "- - B", 2: "- - 0,D", 4: "- E -", 8: "F - -", 16: "- G -", 20: "- G -", 31: "F G B,D"})
	play(t, d, "rename f h = OK") // h is gone, with two writes
	behind(t, d, map[uint64]string{0: "ErrNoFile - -", 1: "ErrNoFile E -", 2: "ErrNoFile - F", 4: "ErrNoFile G -", 3: "ErrNoFile E F"})
	play(t, d, "rename g g = OK; rename h h = OK")
	behind(t, d, map[uint64]string{1: "ErrNoFile E -", 2: "ErrNoFile - F", 4: "ErrNoFile G -"})
}

// Number 64 hangs on the bit that number 0 hangs on.
func TestP9_5MoreThan64(t *testing.T) {
	d := New(300)
	d.Create("f")
	for k := range 200 {
		is(t, "Write", d.Write("f", k, []byte{byte(k + 1)}), api.OK)
	}
	for _, keep := range []uint64{0, 1, 2, 1 << 62, 1 << 63, 1<<63 | 1, 0xf0f0f0f00f0f0f0f, math.MaxUint64, 1 << 8, 1 << 7} {
		c := d.Copy()
		crash(c, keep)
		last := -1
		for k := range 200 {
			if keep>>(k%64)&1 == 1 {
				last = k
			}
		}
		is(t, fmt.Sprintf("pages with keep %x", keep), lenOf(c, "f"), fmt.Sprint(last+1))
		for k := range last + 1 {
			b, _ := c.Read("f", k)
			is(t, fmt.Sprintf("page %d with keep %x", k, keep), uint64(b[0]), uint64(k+1)*(keep>>(k%64)&1))
		}
	}
}

// 200 writes go round among four files, of which one is renamed, one removed and one synced.
func TestP9_5MoreThan64OfSeveralFiles(t *testing.T) {
	d := New(300)
	names := []string{"f", "g", "h", "i"}
	for _, name := range names {
		d.Create(name)
	}
	for k := range 200 {
		is(t, "Write", d.Write(names[k%4], k/4, []byte{byte(k + 1)}), api.OK)
	}
	play(t, d, "sync g = OK; rename i e = OK; remove h = OK")
	for bit := range 64 { // f's writes have the numbers 0, 2, 4 .., e's have 1, 3, 5 ..
		c := d.Copy()
		crash(c, 1<<bit)
		is(t, "g", lenOf(c, "g"), "50")
		is(t, "names", list(c.Names()), "e,f,g")
		for n := range 100 {
			name, was := []string{"f", "e"}[n%2], []int{0, 3}[n%2]+n/2*4+1
			want := 0
			if n%64 == bit {
				want = was
			}
			if b, e := c.Read(name, n/2); e == api.OK || want != 0 {
				is(t, fmt.Sprintf("%s, page %d, bit %d", name, n/2, bit), int(append(b, 0)[0]), want)
			}
		}
	}
}

// Writes that stay behind the end of what is settled have noughts ahead of them, which are settled then.
func TestP9_5Gaps(t *testing.T) {
	d, _ := plays(t, 9, "create f = OK; create g = OK; create h = OK; write f 0 A = OK; sync f = OK; write f 1 B = OK; write f 2 C = OK; write f 3 D = OK; write f 2 E = OK; write f 0 F = OK")
	behind(t, d, map[uint64]string{
		0: "A - -", 1: "A,B - -", 2: "A,0,C - -", 4: "A,0,0,D - -", 8: "A,0,E - -", 16: "F - -", 12: "A,0,E,D - -", 6: "A,0,C,D - -", 10: "A,0,E - -", 20: "F,0,0,D - -", 31: "F,B,E,D - -",
	})
	play(t, d, `
		fail 0 4; sync f = ErrCrash; on; pages f = A,0,0,D; used = 4; read f 1 = 0; write f 4 G = OK; write f 1 H = OK; pages f = A,H,0,D,G
		fail 0 0; sync f = ErrCrash; on; pages f = A,0,0,D; used = 4`)
}

// A write that is lost leaves what was there ahead of it: another write that stays, or what was settled.
func TestP9_5OverAndOver(t *testing.T) {
	d, _ := plays(t, 9, "create f = OK; create g = OK; create h = OK; write f 0 A = OK; sync f = OK; write f 0 B = OK; write f 0 C3 = OK; write f 0 D1 = OK; write f 0 E0 = OK")
	behind(t, d, map[uint64]string{0: "A - -", 1: "B - -", 2: "C3 - -", 3: "C3 - -", 4: "D1 - -", 5: "D1 - -", 7: "D1 - -", 8: "0 - -", 9: "0 - -", 15: "0 - -"})
}

func TestP9_6CopyIsTheSame(t *testing.T) {
	d, m := plays(t, 3, "create f = OK; create g = OK; write f 0 A = OK; sync f = OK; write f 0 B = OK; write g 0 C = OK; write f 1 D = OK; fail 2 3")
	script := `
		names = f,g; pages f = B,D; pages g = C; used = 3; steps = 7; off = false; write g 1 E = ErrQuota; create h = OK; write g 0 E = OK; sync f = ErrCrash; off = true; steps = 9
		on; pages f = B; pages g = C; pages h = -; sync f = OK; sync f = OK; steps = 11`
	c := d.Copy()
	cc := c.Copy()
	play(t, c, script)
	alike(t, "a copy is played", d, m)
	play(t, cc, script)
	play(t, d, script)
}

func TestP9_6CopyWhileOff(t *testing.T) {
	d, _ := plays(t, 3, "create f = OK; write f 0 A = OK; write f 1 B = OK; fail 0 2; sync f = ErrCrash")
	c := d.Copy()
	play(t, c, "off = true; names = -; sync f = ErrCrash; fail 0 1; on; pages f = 0,B; steps = 3; sync f = OK")
	play(t, d, "off = true; names = -; steps = 3; used = 2")
	cc := d.Copy()
	play(t, d, "on; pages f = 0,B; sync f = OK; steps = 4")
	play(t, cc, "off = true; on; off = false; pages f = 0,B; steps = 3")
}

// What is done to a copy is not seen in what it is a copy of, and the other way round: each step, on either, in what is told and in what is open and settled.
func TestP9_6CopyIsItsOwn(t *testing.T) {
	script := "create f = OK; create g = OK; write f 0 A = OK; sync f = OK; write f 0 B = OK; write g 0 C = OK; write f 1 D = OK"
	for _, row := range []string{
		"create h", "write f 0 X", "write f 1 X", "write f 2 X", "write g 0 X; write g 1 X; write g 2 X", "sync f", "sync g", "rename f g", "rename g f", "rename f h", "remove f", "remove g",
		"sync f; write f 0 X; sync f", "sync f; write f 0 X; write f 1 X; write f 2 X", "fail 0 0", "fail 0 0; sync f", "fail 0 0; sync f; on", "fail 0 6; sync f; on; write f 0 X; write f 1 X; sync f",
	} {
		for _, other := range []bool{false, true} {
			d, m := plays(t, 9, script)
			c := d.Copy()
			if other {
				d, c = c, d
			}
			for call := range strings.SplitSeq(row, ";") {
				answer(c, call)
			}
			alike(t, fmt.Sprint("behind ", row, " on the other one"), d, m)
			play(t, d, "write f 1 Y = OK; write f 2 Z = OK; write g 0 Y = OK; write g 1 Z = OK")
			play(t, m, "write f 1 Y = OK; write f 2 Z = OK; write g 0 Y = OK; write g 1 Z = OK")
			for call := range strings.SplitSeq(row, ";") {
				answer(c, call)
			}
			alike(t, fmt.Sprint("behind ", row, " on the other one again"), d, m)
		}
	}
}

// What is handed in, and what lies behind it in its memory, is as it was, and the disk keeps none of it.
func TestP9_6OnlyRead(t *testing.T) {
	for _, n := range []int{0, 1, 3, 255, 256, 257} {
		d := New(9)
		d.Create("f")
		d.Write("f", 0, bytes.Repeat([]byte{9}, 256))
		for _, page := range []int{0, 1, 5, -1} {
			all := bytes.Repeat([]byte{7}, 300)
			d.Write("f", page, all[:n])
			if !bytes.Equal(all, bytes.Repeat([]byte{7}, 300)) {
				t.Fatalf("Write of %d bytes changed what was handed in", n)
			}
			before := told(d)
			for i := range all {
				all[i] = 8
			}
			is(t, "what is told when what was handed in is changed", told(d), before)
			crash(d, math.MaxUint64)
			is(t, "the same behind a failure", told(d), before)
		}
	}
}

func TestP9_6NamesAreNotKept(t *testing.T) {
	made, moved := []byte("made"), []byte("moved")
	d := New(9)
	d.Create(unsafe.String(&made[0], len(made)))
	d.Create("other")
	d.Rename("other", unsafe.String(&moved[0], len(moved)))
	d.Write(unsafe.String(&made[0], len(made)), 0, []byte("x"))
	made[0], moved[0] = 'X', 'X'
	play(t, d, "names = made,moved; pages made = x1; pages moved = -; pages Xade = ErrNoFile; rename moved moved = OK; names = made,moved")
	c := d.Copy()
	play(t, c, "remove made = OK; names = moved")
}

func TestP9_6NewMemory(t *testing.T) {
	d, m := plays(t, 9, "create f = OK; create g = OK; write f 0 A = OK; sync f = OK; write f 1 B = OK")
	for page := range 2 {
		a, _ := d.Read("f", page)
		b, _ := d.Read("f", page)
		was := bytes.Clone(b)
		for i := range a {
			a[i] = 99
		}
		_ = append(a, 1, 2, 3)
		is(t, "another answer", shown(b), shown(was))
	}
	alike(t, "when pages that were answered are changed", d, m)
	k, l := d.Names(), d.Names()
	for i := range k {
		if unsafe.StringData(k[i]) == unsafe.StringData(l[i]) {
			t.Errorf("name %q is told twice in one memory", k[i])
		}
		k[i] = "z"
	}
	_ = append(k[:1], "y")
	is(t, "another answer", list(l), "f,g")
	alike(t, "when names that were answered are changed", d, m)
}

// A call that answers an error changes nothing: not what is told, nor what is open, nor a failure that is set.
func TestP9_6ErrorsChangeNothing(t *testing.T) {
	script := "create f = OK; create g = OK; write f 0 A = OK; sync f = OK; write f 0 B = OK; write g 0 C = OK; "
	for _, x := range []string{
		"create - = ErrArg", "create x101 = ErrArg", "create f = ErrThere", "create g = ErrThere", "write h 0 X = ErrNoFile", "write f 0 X257 = ErrArg", "write f 1 X257 = ErrArg", "write f 2 X = ErrPage", "write f -1 X = ErrPage",
		"write f 1 X = ErrQuota", "write g 1 X = ErrQuota", "sync h = ErrNoFile", "rename h f = ErrNoFile", "rename f - = ErrArg", "rename f x101 = ErrArg", "remove h = ErrNoFile", "read f 1 = ErrPage", "read h 0 = ErrNoFile", "len h = ErrNoFile",
	} {
		for _, fail := range []string{"", "fail 1 2; ", "fail 0 1; "} {
			d, m := New(2), newModel(2)
			play(t, d, script+fail+x)
			play(t, m, script+fail)
			alike(t, "behind "+x, d, m)
		}
	}
	// off: neither what was there ahead of the failure, nor the failure's keep, is another one
	d, m := plays(t, 2, script+"fail 0 1; sync f = ErrCrash")
	play(t, d, "create h = ErrCrash; write f 0 X = ErrCrash; write g 0 X = ErrCrash; sync f = ErrCrash; sync g = ErrCrash; rename f g = ErrCrash; remove f = ErrCrash; remove g = ErrCrash")
	alike(t, "while it is off", d, m)
}

// filled is a disk with drawn steps behind it.
func filled(r *rand.Rand) *Disk {
	d := New(r.Intn(20))
	for range 20 + r.Intn(200) {
		x := drawn(r)
		if !strings.HasPrefix(x, "fail") {
			answer(d, x)
		}
	}
	return d
}

func TestP9_7SyncedIsWhatItWas(t *testing.T) {
	for seed := range int64(600) {
		r := rand.New(rand.NewSource(seed))
		d := filled(r)
		d.Create("kept")
		for k := range r.Intn(4) {
			d.Write("kept", k, []byte{byte(seed), byte(k)})
		}
		d.Sync("kept")
		was, name := pagesOf(d, "kept"), "kept"
		for range 60 {
			if r.Intn(15) == 0 {
				d.Rename(name, "moved")
				if _, e := d.Len("moved"); e == api.OK {
					name = "moved"
				}
			}
			answer(d, drawn(r))
			if d.Off() {
				d.On()
			}
		}
		crash(d, r.Uint64())
		is(t, fmt.Sprint("seed ", seed), pagesOf(d, name), was)
	}
}

func TestP9_7AllBitsOrNone(t *testing.T) {
	for seed := range int64(600) {
		r := rand.New(rand.NewSource(seed))
		d := filled(r)
		c := d.Copy()
		before := told(c)
		crash(c, math.MaxUint64)
		is(t, fmt.Sprint("all bits, seed ", seed), told(c), before)
		crash(c, 0)
		is(t, fmt.Sprint("and all settled, seed ", seed), told(c), before)

		for _, name := range d.Names() {
			d.Sync(name)
		}
		settled := map[string]string{}
		for _, name := range d.Names() {
			settled[name] = pagesOf(d, name)
		}
		for range 20 {
			for _, name := range d.Names() {
				d.Write(name, r.Intn(5), []byte{200})
			}
		}
		crash(d, 0)
		is(t, fmt.Sprint("files, seed ", seed), len(d.Names()), len(settled))
		for name, want := range settled {
			is(t, fmt.Sprint("no bits, seed ", seed), pagesOf(d, name), want)
		}
	}
}

func TestP9_7UsedWithinQuota(t *testing.T) {
	for seed := range int64(600) {
		r := rand.New(rand.NewSource(seed))
		quota := r.Intn(10)
		d := New(quota)
		for range 150 {
			answer(d, drawn(r))
			if n := d.Used(); n > quota {
				t.Fatalf("seed %d: %d pages, quota %d", seed, n, quota)
			}
			if d.Off() {
				n, l := d.Used(), d.Copy()
				d.On()
				if d.Used() > n || l.Used() != n {
					t.Fatalf("seed %d: %d pages behind a failure, %d ahead of it", seed, d.Used(), n)
				}
			}
		}
	}
}

// Nothing hangs on the order in which the files stand in a map.
func TestSameEachTime(t *testing.T) {
	for seed := range int64(10) {
		first := ""
		for k := range 20 {
			r := rand.New(rand.NewSource(seed))
			d := New(200)
			for i := range 60 {
				d.Create(fmt.Sprint(i))
			}
			for range 500 {
				d.Write(fmt.Sprint(r.Intn(60)), r.Intn(3), []byte{byte(r.Intn(255) + 1)})
			}
			crash(d, r.Uint64())
			if k == 0 {
				first = told(d)
			}
			is(t, fmt.Sprint("seed ", seed), told(d), first)
		}
	}
}

// A disk that is full, of one file that is synced behind each write, is still quick.
func TestFullDisk(t *testing.T) {
	d := New(math.MaxInt)
	d.Create("f")
	for k := range 65536 {
		if d.Write("f", k, []byte{byte(k), byte(k >> 8)}) != api.OK || d.Sync("f") != api.OK {
			t.Fatal("page ", k)
		}
	}
	for range 3 {
		for k := range 65536 {
			d.Write("f", k, []byte{255})
		}
		is(t, "one more", d.Write("f", 65536, nil), api.ErrQuota)
		c := d.Copy()
		crash(d, 0)
		crash(c, math.MaxUint64)
		for k := range 65536 {
			a, _ := d.Read("f", k)
			b, _ := c.Read("f", k)
			if a[0] != byte(k) || a[1] != byte(k>>8) || b[0] != 255 || b[1] != 0 {
				t.Fatalf("page %d: %x, %x", k, a[:2], b[:2])
			}
		}
	}
}

func TestNoPanic(t *testing.T) {
	names := []string{"", "f", "g", "\x00", strings.Repeat("x", 100), strings.Repeat("x", 101), strings.Repeat("x", 1<<20)}
	numbers := []int{math.MinInt, -257, -1, 0, 1, 2, 255, 256, 257, 65536, math.MaxInt}
	for _, first := range []string{"", "create f = OK", "create f = OK; write f 0 A = OK; fail 3 1", "fail 0 0; create f = ErrCrash"} {
		for _, quota := range numbers {
			d := New(quota)
			if quota > 0 || !strings.Contains(first, "write") {
				play(t, d, first)
			}
			for _, x := range []*Disk{nil, {}, d, d.Copy(), (*Disk)(nil).Copy()} {
				for _, name := range names {
					for _, n := range numbers {
						x.Create(name)
						x.Write(name, n, make([]byte, max(0, min(n, 1000))))
						x.Read(name, n)
						x.Len(name)
						x.Rename(name, names[(n&7)%7])
						x.Sync(name)
						x.Fail(n, uint64(n))
						x.On()
						x.Remove(name)
						x.Off()
						x.Names()
						x.Used()
						x.Steps()
						x.Copy()
					}
				}
			}
		}
	}
}
