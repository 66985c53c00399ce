package log

import (
	"encoding/binary"
	"fmt"
	"slices"
	"strings"
	"testing"

	"sluiceway/api"
	"sluiceway/disk"
)

// is asks for one answer.
func is[T comparable](t *testing.T, what string, have, want T) {
	t.Helper()
	if have != want {
		t.Fatalf("%s: %v, want %v", what, have, want)
	}
}

const all = uint64(1<<64 - 1)

// letters are so many bytes, none of them a nought.
func letters(n int) string { return strings.Repeat("abcdefghijklmnopqrstuvwxyz,", n/27+1)[:n] }

func times(n int, s string) []string { return slices.Repeat([]string{s}, n) }

// batch makes entries of texts.
func batch(texts ...string) [][]byte {
	l := make([][]byte, len(texts))
	for k, s := range texts {
		l[k] = []byte(s)
	}
	return l
}

// rowOf, headOf and fileOf are the chapter's words: a row, a head and all pages, written out.
func rowOf(entries ...string) string {
	var b strings.Builder
	for _, s := range entries {
		b.Write(binary.BigEndian.AppendUint32(nil, uint32(len(s))))
		b.WriteString(s)
	}
	return b.String()
}

func headOf(length, count uint64) string {
	return string(binary.BigEndian.AppendUint64(binary.BigEndian.AppendUint64(nil, length), count))
}

func fileOf(entries ...string) []string {
	row := rowOf(entries...)
	return append([]string{padded(headOf(uint64(len(row)), uint64(len(entries))))}, cut(row)...)
}

func padded(s string) string { return s + strings.Repeat("\x00", (256-len(s)%256)%256) }

func cut(s string) []string {
	var l []string
	for s = padded(s); s != ""; s = s[256:] {
		l = append(l, s[:256])
	}
	return l
}

// wrote is a disk with a file f that other calls wrote.
func wrote(t *testing.T, pages ...string) *disk.Disk {
	t.Helper()
	d := disk.New(api.MaxQuota)
	is(t, "Create", d.Create("f"), api.OK)
	for k, s := range pages {
		is(t, "Write", d.Write("f", k, []byte(s)), api.OK)
	}
	is(t, "Sync", d.Sync("f"), api.OK)
	return d
}

// holding is a disk whose file f is a log's with those entries.
func holding(t *testing.T, entries ...string) *disk.Disk {
	t.Helper()
	return wrote(t, fileOf(entries...)...)
}

// file is all pages of a file.
func file(d *disk.Disk, name string) []string {
	var l []string
	for k := 0; ; k++ {
		b, e := d.Read(name, k)
		if e != api.OK {
			return l
		}
		l = append(l, string(b))
	}
}

// has asks that a file has just those pages.
func has(t *testing.T, what string, d *disk.Disk, name string, pages ...string) {
	t.Helper()
	have := file(d, name)
	is(t, what+": pages", len(have), len(pages))
	for k := range pages {
		if have[k] != padded(pages[k]) && (pages[k] != "" || strings.Trim(have[k], "\x00") != "") {
			t.Fatalf("%s: page %d is\n%x, want\n%x", what, k, have[k], pages[k])
		}
	}
}

// tells asks that entries are just those.
func tells(t *testing.T, what string, have [][]byte, want ...string) {
	t.Helper()
	is(t, what+": entries", len(have), len(want))
	for k := range want {
		if string(have[k]) != want[k] {
			t.Fatalf("%s: entry %d is\n%x, want\n%x", what, k, have[k], want[k])
		}
	}
}

// opened opens a log on f, which must have just those entries.
func opened(t *testing.T, what string, d *disk.Disk, want ...string) *Log {
	t.Helper()
	l, told, e := Open(d, "f")
	is(t, what+": Open", e, api.OK)
	if l == nil {
		t.Fatal(what, ": no log")
	}
	tells(t, what, told, want...)
	is(t, what+": Count", l.Count(), len(want))
	return l
}

// refused opens what must not be a log.
func refused(t *testing.T, what string, d *disk.Disk, name string, want api.Errno) {
	t.Helper()
	l, told, e := Open(d, name)
	is(t, what+": Open", e, want)
	if l != nil || len(told) != 0 {
		t.Fatalf("%s: beside the error a log (%v) or %d entries", what, l != nil, len(told))
	}
}

// state is all that a disk tells.
func state(d *disk.Disk) string {
	var b strings.Builder
	fmt.Fprintf(&b, "off %v, used %d, steps %d;", d.Off(), d.Used(), d.Steps())
	for _, name := range d.Names() {
		fmt.Fprintf(&b, " %q ", name)
		for _, page := range file(d, name) {
			b.WriteString(page + ",")
		}
	}
	return b.String()
}

// crash lets the power fail at the next step, with that keep, and come back.
func crash(d *disk.Disk, keep uint64) {
	d.Fail(0, keep)
	fall(d)
	d.On()
}

// fall makes a step.
func fall(d *disk.Disk) {
	if l := d.Names(); len(l) > 0 {
		d.Sync(l[0])
	} else {
		d.Create("nudged")
	}
}

// alike holds two disks against each other: what they tell, now, behind failures, and behind the failure that is set.
func alike(t *testing.T, what string, have, want *disk.Disk) {
	t.Helper()
	if a, b := state(have), state(want); a != b {
		t.Fatalf("%s:\nhave %q\nwant %q", what, a, b)
	}
	for _, keep := range []uint64{0, all, 1, 2, 0x5555555555555555, 0x3333333333333333, 0x0f0f0f0f0f0f0f0f} {
		c, n := have.Copy(), want.Copy()
		crash(c, keep)
		crash(n, keep)
		if a, b := state(c), state(n); a != b {
			t.Fatalf("%s, behind a failure with %x:\nhave %q\nwant %q", what, keep, a, b)
		}
	}
	c, n := have.Copy(), want.Copy()
	for range 9 {
		fall(c)
		fall(n)
	}
	c.On()
	n.On()
	if a, b := state(c), state(n); a != b {
		t.Fatalf("%s, some steps later:\nhave %q\nwant %q", what, a, b)
	}
}
