package log

import (
	"bytes"
	"fmt"
	"math"
	"math/rand"
	"slices"
	"strings"
	"testing"
	"unsafe"

	"sluiceway/api"
	"sluiceway/disk"
)

// The chapter's examples; each goes on where the one ahead of it ends, but for the last.
func TestExamples(t *testing.T) {
	d := disk.New(9)
	l := opened(t, "a new one", d)
	is(t, "Append", l.Append([]byte{1, 2}, nil), api.OK)
	is(t, "Count", l.Count(), 2)
	opened(t, "again", d, "\x01\x02", "")
	noughts := strings.Repeat("\x00", 7)
	has(t, "the file", d, "f", noughts+"\x0a"+noughts+"\x02", "\x00\x00\x00\x02\x01\x02\x00\x00\x00\x00")
	d.Fail(0, 0)
	is(t, "Append", l.Append([]byte{3}), api.ErrCrash)
	is(t, "Append", l.Append([]byte{4}), api.ErrCrash)
	d.On()
	l = opened(t, "behind a failure", d, "\x01\x02", "")
	d.Fail(2, all)
	is(t, "Append", l.Append([]byte{3}), api.ErrCrash)
	d.On()
	l = opened(t, "the head was not written", d, "\x01\x02", "")
	d.Fail(3, all)
	is(t, "Append", l.Append([]byte{3}), api.ErrCrash)
	d.On()
	opened(t, "the head was written", d, "\x01\x02", "", "\x03")
	refused(t, "300 bytes and no page", wrote(t, headOf(300, 1)), "f", api.ErrTorn)
}

func TestP10_1NilDisk(t *testing.T) {
	for _, name := range []string{"f", "", letters(100), letters(101)} {
		refused(t, "of no disk", nil, name, api.ErrNil)
	}
}

func TestP10_1Names(t *testing.T) {
	for _, name := range []string{"", letters(101), letters(1000)} {
		d := disk.New(9)
		refused(t, "a name that may not be one", d, name, api.ErrArg)
		alike(t, "a name that may not be one", d, disk.New(9))
	}
	d := disk.New(99)
	for k, name := range []string{"f", "g", letters(100), letters(99), "\x00", "\xff\xfe", "a/b", " "} {
		l, told, e := Open(d, name)
		is(t, "Open", e, api.OK)
		tells(t, "a new one", told)
		is(t, "files", len(d.Names()), k+1)
		is(t, "Append", l.Append([]byte(name)), api.OK)
	}
	for _, name := range d.Names() {
		_, told, e := Open(d, name)
		is(t, "Open", e, api.OK)
		tells(t, "each has its own", told, name)
		has(t, "each has its own", d, name, fileOf(name)...)
	}
}

func TestP10_1NewFile(t *testing.T) {
	d, c := disk.New(1), disk.New(1)
	opened(t, "a new one", d)
	c.Create("f")
	c.Write("f", 0, nil)
	c.Sync("f")
	alike(t, "a new one", d, c)
	is(t, "Steps", d.Steps(), 3)
	for range 3 {
		opened(t, "again", d)
	}
	alike(t, "opened again", d, c)
}

// A file that is there without pages: made by another call, by an Open that got no further, or one whose pages were lost.
func TestP10_1FileWithoutPages(t *testing.T) {
	made, synced, lost, stuck := disk.New(1), disk.New(1), disk.New(1), disk.New(1)
	made.Create("f")
	synced.Create("f")
	synced.Sync("f")
	lost.Create("f")
	lost.Write("f", 0, []byte("x"))
	crash(lost, 0)
	stuck.Fail(1, 0)
	refused(t, "the write fails", stuck, "f", api.ErrCrash)
	stuck.On()
	for what, d := range map[string]*disk.Disk{"made": made, "synced": synced, "lost": lost, "stuck": stuck} {
		n := d.Steps()
		l := opened(t, what, d)
		is(t, what+": steps", d.Steps(), n+2)
		has(t, what, d, "f", "")
		crash(d, 0)
		has(t, what+", settled", d, "f", "")
		is(t, what+": Append", l.Append(nil), api.ErrQuota)
	}
}

// The errors of the disk, in their order.
func TestP10_1DisksErrors(t *testing.T) {
	d := disk.New(0)
	refused(t, "no room for a head", d, "f", api.ErrQuota)
	is(t, "the file is there", strings.Join(d.Names(), ","), "f")
	refused(t, "no room for a head, once more", d, "f", api.ErrQuota)
	is(t, "Steps", d.Steps(), 1)

	d = wrote(t, fileOf("one")...)
	for k := range 255 {
		is(t, "Create", d.Create(fmt.Sprint(k)), api.OK)
	}
	c := d.Copy()
	refused(t, "a file too many", d, "g", api.ErrLimit)
	refused(t, "a file too many, of no name", d, "", api.ErrArg)
	refused(t, "a file too many, of a long name", d, letters(101), api.ErrArg)
	alike(t, "a file too many", d, c)
	opened(t, "one that is there", d, "one")
	_, _, e := Open(d, "7")
	is(t, "one that is there, without pages", e, api.OK)

	d.Fail(0, 0)
	d.Sync("f")
	c = d.Copy()
	for _, name := range []string{"f", "g", "7", "", letters(101)} {
		refused(t, "a disk that is off", d, name, api.ErrCrash)
	}
	alike(t, "a disk that is off", d, c)
	d.On()
	opened(t, "on again", d, "one")
}

// A full quota: no head for a new file, but what is there is told.
func TestP10_1FullQuota(t *testing.T) {
	d := disk.New(3)
	l := opened(t, "a new one", d)
	is(t, "Append", l.Append([]byte(letters(500))), api.OK)
	is(t, "Used", d.Used(), 3)
	refused(t, "no room", d, "g", api.ErrQuota)
	opened(t, "a full disk", d, letters(500))
	is(t, "Remove", d.Remove("f"), api.OK)
	opened(t, "room again", d)
	_, _, e := Open(d, "g")
	is(t, "Open", e, api.OK)
}

// Each step of Open is the one that fails, with none, some and all of the open writes kept.
func TestP10_1EachStepFails(t *testing.T) {
	for in := range 5 {
		for _, keep := range []uint64{0, 1, 2, 3, 5, 7, all} {
			what := fmt.Sprintf("step %d fails, keep %b", in, keep)
			d := disk.New(9)
			d.Create("x")
			d.Write("x", 0, []byte("x")) // open write 0; the head is 1
			d.Fail(in, keep)
			if in > 2 {
				opened(t, what, d)
				is(t, what+": Off", d.Off(), false)
				continue
			}
			refused(t, what, d, "f", api.ErrCrash)
			is(t, what+": Off", d.Off(), true)
			is(t, what+": Steps", d.Steps(), 2+in)
			refused(t, what, d, "f", api.ErrCrash)
			d.On()
			is(t, what+": the file", slices.Contains(d.Names(), "f"), in > 0)
			is(t, what+": its pages", len(file(d, "f")), map[bool]int{true: 1}[in == 2 && keep&2 != 0])
			is(t, what+": the other's pages", len(file(d, "x")), int(keep&1))
			l := opened(t, what, d)
			is(t, what+": Append", l.Append([]byte("on")), api.OK)
			opened(t, what, d, "on")
		}
	}
}

// Heads that are none, or of no row for which there is room; behind them lie rows that would do.
func TestP10_1Heads(t *testing.T) {
	row := strings.Repeat("\x00", 1024)
	for _, x := range []struct {
		length, count uint64
		pages         int // behind the head
		want          api.Errno
	}{
		{0, 0, 0, api.OK}, {0, 0, 1, api.OK}, {0, 0, 4, api.OK},
		{4, 1, 1, api.OK}, {8, 2, 1, api.OK}, {256, 64, 1, api.OK}, {260, 65, 2, api.OK}, {512, 128, 2, api.OK}, {1024, 256, 4, api.OK},
		// past the pages
		{1, 0, 0, api.ErrTorn}, {4, 1, 0, api.ErrTorn}, {256, 64, 0, api.ErrTorn}, {257, 64, 1, api.ErrTorn}, {260, 65, 1, api.ErrTorn}, {300, 75, 1, api.ErrTorn}, {512, 128, 1, api.ErrTorn}, {516, 129, 2, api.ErrTorn}, {1028, 257, 4, api.ErrTorn}, {1024, 256, 3, api.ErrTorn},
		// too great
		{1 << 31, 0, 4, api.ErrTorn}, {1 << 32, 0, 4, api.ErrTorn}, {1<<32 + 4, 1, 4, api.ErrTorn}, {1 << 62, 0, 4, api.ErrTorn}, {1 << 63, 0, 4, api.ErrTorn}, {1<<63 + 4, 1, 4, api.ErrTorn}, {1<<63 - 1, 1, 4, api.ErrTorn}, {math.MaxUint64, 0, 4, api.ErrTorn}, {math.MaxUint64 - 3, 1, 4, api.ErrTorn},
		{4, 1<<32 + 1, 4, api.ErrTorn}, {4, 1<<63 + 1, 4, api.ErrTorn}, {0, 1 << 32, 4, api.ErrTorn}, {0, 1 << 63, 4, api.ErrTorn}, {0, math.MaxUint64, 4, api.ErrTorn}, {4, math.MaxUint64, 4, api.ErrTorn}, {0, 1 << 62, 0, api.ErrTorn}, {math.MaxUint64, math.MaxUint64, 4, api.ErrTorn},
		{0, 65537, 1, api.ErrTorn}, {0, 65536, 1, api.ErrTorn}, {4, 65537, 1, api.ErrTorn},
		// that do not fit the row
		{0, 1, 0, api.ErrTorn}, {0, 1, 1, api.ErrTorn}, {4, 0, 1, api.ErrTorn}, {4, 2, 1, api.ErrTorn}, {8, 1, 1, api.ErrTorn}, {8, 3, 1, api.ErrTorn}, {256, 63, 1, api.ErrTorn}, {256, 65, 1, api.ErrTorn}, {256, 65, 2, api.ErrTorn}, {1024, 255, 4, api.ErrTorn}, {1024, 257, 4, api.ErrTorn},
		// that end within four bytes
		{1, 1, 1, api.ErrTorn}, {2, 1, 1, api.ErrTorn}, {3, 1, 1, api.ErrTorn}, {1, 0, 1, api.ErrTorn}, {3, 0, 1, api.ErrTorn}, {5, 1, 1, api.ErrTorn}, {5, 2, 1, api.ErrTorn}, {6, 2, 1, api.ErrTorn}, {7, 2, 1, api.ErrTorn}, {7, 1, 1, api.ErrTorn}, {257, 65, 2, api.ErrTorn}, {259, 65, 2, api.ErrTorn}, {1023, 256, 4, api.ErrTorn},
	} {
		d := wrote(t, append([]string{headOf(x.length, x.count)}, cut(row[:256*x.pages])...)...)
		c := d.Copy()
		what := fmt.Sprintf("%d bytes, %d entries, %d pages", x.length, x.count, x.pages)
		if x.want == api.OK {
			opened(t, what, d, times(int(x.count), "")...)
		} else {
			refused(t, what, d, "f", x.want)
		}
		alike(t, what, d, c)
	}
}

// Noughts are behind the head's two numbers.
func TestP10_1BehindTheHead(t *testing.T) {
	for at := 16; at < 256; at++ {
		head := []byte(padded(headOf(4, 1)))
		for _, x := range []byte{1, 128, 255} {
			head[at] = x
			refused(t, fmt.Sprintf("byte %d is %d", at, x), wrote(t, string(head), ""), "f", api.ErrTorn)
		}
		head[at] = 0
		if at%16 == 0 {
			opened(t, "noughts behind", wrote(t, string(head), ""), "")
		}
	}
}

// Rows as they are told, and rows that are none of as many entries.
func TestP10_1Rows(t *testing.T) {
	for _, x := range []struct {
		row   string
		count uint64
		want  []string // none: ErrTorn
	}{
		{"\x00\x00\x00\x02\x01\x02\x00\x00\x00\x00", 2, []string{"\x01\x02", ""}},
		{"\x00\x00\x00\x01x", 1, []string{"x"}},
		{"\x00\x00\x00\x00\x00\x00\x00\x01x", 2, []string{"", "x"}},
		{"\x00\x00\x00\x04\x00\x00\x00\x00", 1, []string{"\x00\x00\x00\x00"}},
		{"\x00\x00\x00\x04\x00\x00\x00\x01", 1, []string{"\x00\x00\x00\x01"}},
		{"\x00\x00\x01\x00" + letters(256), 1, []string{letters(256)}},
		{"\x00\x00\x01\x02" + letters(258) + "\x00\x00\x00\x03abc", 2, []string{letters(258), "abc"}},
		// within its bytes
		{"\x00\x00\x00\x01", 1, nil}, {"\x00\x00\x00\x02x", 1, nil}, {"\x00\x00\x00\x02x", 0, nil}, {"\x00\x00\x00\x00\x00\x00\x00\x01", 2, nil}, {"\x00\x00\x00\x03ab", 1, nil}, {"\x00\x00\x01\x00" + letters(255), 1, nil}, {"\x00\x00\x00\x05\x00\x00\x00\x00", 2, nil},
		// within its four bytes
		{"\x00\x00\x00\x01x\x00", 1, nil}, {"\x00\x00\x00\x01x\x00", 2, nil}, {"\x00\x00\x00\x01x\x00\x00\x00", 2, nil}, {"\x00\x00\x00\x01x\x00\x00\x00", 1, nil}, {"x", 1, nil}, {"\x00\x00\x00", 1, nil},
		// other numbers of entries
		{"\x00\x00\x00\x01x\x00\x00\x00\x01y", 1, nil}, {"\x00\x00\x00\x01x\x00\x00\x00\x01y", 3, nil}, {"\x00\x00\x00\x01x\x00\x00\x00\x01y", 0, nil}, {"\x00\x00\x00\x01x", 2, nil}, {"\x00\x00\x00\x01x", 0, nil},
		// lengths that other forms of numbers would take
		{"\x02\x00\x00\x00ab", 1, nil}, {"\x01\x00\x00\x00x", 1, nil}, {"\x00\x01\x00\x00x", 1, nil}, {"\xff\xff\xff\xffx", 1, nil}, {"\x80\x00\x00\x00", 1, nil}, {"\x80\x00\x00\x01x", 1, nil}, {"\x7f\xff\xff\xff", 1, nil}, {"\xff\xff\xff\xfc", 1, nil}, {"\x00\x00\x00\x00\xff\xff\xff\xfc", 2, nil},
	} {
		d := wrote(t, append([]string{headOf(uint64(len(x.row)), x.count)}, cut(x.row)...)...)
		c := d.Copy()
		what := fmt.Sprintf("%.20x, %d entries", x.row, x.count)
		if len(x.want) > 0 {
			opened(t, what, d, x.want...)
		} else {
			refused(t, what, d, "f", api.ErrTorn)
		}
		alike(t, what, d, c)
	}
}

// All cuts of a row, and all lengths that a head may say of it, with all numbers of entries.
func TestP10_1Cuts(t *testing.T) {
	entries := []string{"ab", "", letters(3), "\x00\x00\x00\x01"}
	row := rowOf(entries...)
	whole := map[int]int{0: 0} // how many entries there are in so many bytes
	for k := range entries {
		whole[len(rowOf(entries[:k+1]...))] = k + 1
	}
	for n := range len(row) + 1 {
		for count := range len(entries) + 2 {
			what := fmt.Sprintf("%d bytes, %d entries", n, count)
			for _, d := range []*disk.Disk{
				wrote(t, headOf(uint64(n), uint64(count)), row[:n]),
				wrote(t, headOf(uint64(n), uint64(count)), row),
			} {
				if k, ok := whole[n]; ok && k == count {
					opened(t, what, d, entries[:k]...)
				} else {
					refused(t, what, d, "f", api.ErrTorn)
				}
			}
		}
	}
}

// What lies behind the row, in its last page and in those behind that, counts for nothing.
func TestP10_1BehindTheRow(t *testing.T) {
	junk := strings.Repeat("\xff", 256)
	for _, entries := range [][]string{nil, {""}, {"a"}, {letters(251)}, {letters(252)}, {letters(253)}, {letters(300), "", "x"}, {letters(508)}} {
		row := rowOf(entries...)
		head := headOf(uint64(len(row)), uint64(len(entries)))
		rest := row + strings.Repeat("\xff", (256-len(row)%256)%256)
		for more := range 3 {
			d := wrote(t, append(append([]string{head}, cut(rest)...), slices.Repeat([]string{junk}, more)...)...)
			c := d.Copy()
			l := opened(t, "junk behind the row", d, entries...)
			alike(t, "junk behind the row", d, c)
			// an Append writes the pages in which it lies, with noughts behind it, and leaves the others
			is(t, "Append", l.Append([]byte("z")), api.OK)
			all := append(slices.Clone(entries), "z")
			opened(t, "an Append amid junk", d, all...)
			pages := fileOf(all...)
			for len(pages) < 1+len(cut(rest))+more {
				pages = append(pages, junk)
			}
			has(t, "an Append amid junk", d, "f", pages...)
		}
	}
}

func TestP10_1ManyEntries(t *testing.T) {
	for _, x := range []struct {
		n    int
		want api.Errno
	}{{65535, api.OK}, {65536, api.OK}, {65537, api.ErrTorn}, {70000, api.ErrTorn}} {
		d := holding(t, times(x.n, "")...)
		if x.want != api.OK {
			refused(t, fmt.Sprint(x.n, " entries"), d, "f", x.want)
			continue
		}
		l := opened(t, fmt.Sprint(x.n, " entries"), d, times(x.n, "")...)
		is(t, "one more", l.Append(nil), map[bool]api.Errno{true: api.ErrLimit}[x.n == 65536])
	}
}

// An entry of a log has at most MaxMsg bytes: a row with a longer one is none.
func TestP10_1LongEntries(t *testing.T) {
	for _, n := range []int{0, 1, 32767, 32768} {
		opened(t, fmt.Sprint(n, " bytes"), holding(t, "a", letters(n), "z"), "a", letters(n), "z")
		opened(t, fmt.Sprint(n, " bytes"), holding(t, letters(n)), letters(n))
	}
	for _, n := range []int{32769, 33000, 65536, 100000} {
		refused(t, fmt.Sprint(n, " bytes"), holding(t, "a", letters(n), "z"), "f", api.ErrTorn)
		refused(t, fmt.Sprint(n, " bytes"), holding(t, letters(n)), "f", api.ErrTorn)
	}
}

// ends are lengths of an entry whose row ends about a page's end.
func ends() []int {
	return []int{0, 1, 250, 251, 252, 253, 254, 506, 507, 508, 509, 764, 1020, 1021, 2555, 2556, 2557}
}

func TestP10_1RowsAtPagesEnds(t *testing.T) {
	for _, n := range ends() {
		s := letters(n)
		opened(t, fmt.Sprint("an entry of ", n), holding(t, s), s)
		opened(t, fmt.Sprint("an entry of ", n, " and others"), holding(t, s, "", "x", s), s, "", "x", s)
		if (n+4)%256 == 0 { // there is no page behind such a row
			is(t, "pages", len(fileOf(s)), 1+(n+4)/256)
		}
	}
}

// What is told of a file is what calls are told, settled or not; and nothing is settled by it.
func TestP10_1OpenWrites(t *testing.T) {
	d := holding(t, "old")
	for k, s := range fileOf("new", letters(300)) {
		is(t, "Write", d.Write("f", k, []byte(s)), api.OK)
	}
	c := d.Copy()
	opened(t, "open writes", d, "new", letters(300))
	alike(t, "open writes", d, c)
	crash(d, 0)
	opened(t, "they are lost", d, "old")
}

func TestP10_2NilLog(t *testing.T) {
	var l *Log
	is(t, "Append of none", l.Append(), api.ErrNil)
	is(t, "Append", l.Append(nil), api.ErrNil)
	is(t, "Append", l.Append([]byte("x"), []byte("y")), api.ErrNil)
	is(t, "Append of a long one", l.Append(make([]byte, 32769)), api.ErrNil)
	is(t, "Append of many", l.Append(make([][]byte, 65537)...), api.ErrNil)
}

// A log that is made by hand is on no disk.
func TestP10_2ZeroLog(t *testing.T) {
	var l Log
	is(t, "Count", l.Count(), 0)
	is(t, "Append of none", l.Append(), api.OK)
	is(t, "Append of a long one", l.Append(make([]byte, 32769)), api.ErrLimit)
	is(t, "Append", l.Append([]byte("x")), api.ErrNil)
	is(t, "Append of none", l.Append(), api.ErrNil)
	is(t, "Append of a long one", l.Append(make([]byte, 32769)), api.ErrNil)
	is(t, "Count", l.Count(), 0)
}

// The file behind rows of batches, page by page, and how many steps each batch takes.
func TestP10_2File(t *testing.T) {
	rows := [][][]string{
		{{"a"}}, {{""}}, {{"", ""}}, {{"a", "b"}, {"c"}}, {{""}, {""}, {""}},
		{{letters(600), "", letters(300)}, {"x"}, {letters(1000)}},
		{{letters(32768)}, {letters(32768), "x"}, {letters(300)}},
		{times(63, ""), {""}, {""}}, {times(64, ""), {""}}, {times(128, ""), times(64, ""), {"z"}},
	}
	for _, a := range ends() {
		for _, b := range []int{0, 1, 247, 248, 252, 253, 508, 600} {
			rows = append(rows, [][]string{{letters(a)}, {letters(b)}, {"z"}}, [][]string{{letters(a), letters(b)}, {"", "y"}})
		}
	}
	for _, batches := range rows {
		d := disk.New(999)
		l := opened(t, "a new one", d)
		var told []string
		for _, texts := range batches {
			first, steps := len(rowOf(told...))/256, d.Steps()
			told = append(told, texts...)
			last := (len(rowOf(told...)) - 1) / 256
			is(t, "Append", l.Append(batch(texts...)...), api.OK)
			what := fmt.Sprintf("%d entries, %d bytes", len(told), len(rowOf(told...)))
			has(t, what, d, "f", fileOf(told...)...)
			is(t, what+": steps", d.Steps()-steps, last-first+1+3)
			is(t, what+": Count", l.Count(), len(told))
			opened(t, what, d.Copy(), told...)
			if len(told)%2 == 0 { // now and then another log goes on
				l = opened(t, what, d, told...)
			}
		}
		c := d.Copy()
		crash(c, 0)
		has(t, "all is settled", c, "f", fileOf(told...)...)
	}
}

// A row whose bytes end just at a page's end begins the next page with the next batch, and leaves the full one.
func TestP10_2FullPageIsLeft(t *testing.T) {
	d := holding(t, letters(252))
	l := opened(t, "a full page", d, letters(252))
	d.Fail(0, 0)
	is(t, "Append", l.Append([]byte("x")), api.ErrCrash)
	d.On()
	l = opened(t, "a full page", d, letters(252))
	d.Fail(1, 1)
	is(t, "Append", l.Append([]byte("x")), api.ErrCrash)
	d.On()
	has(t, "one write was kept", d, "f", append(fileOf(letters(252)), rowOf("x"))...)
}

// The steps, in their order: each of them fails, with all choices of the open writes kept; what is in the file behind it is told page by page.
func TestP10_2EachStepFails(t *testing.T) {
	for _, x := range []struct{ before, texts []string }{
		{nil, []string{"a"}}, {nil, []string{letters(252)}}, {nil, []string{letters(253)}}, {nil, []string{letters(600), "", letters(300)}},
		{[]string{"b"}, []string{"a"}}, {[]string{"b", letters(100)}, []string{letters(700)}}, {[]string{letters(252)}, []string{""}}, {[]string{letters(252)}, []string{letters(300)}},
		{[]string{letters(251)}, []string{""}}, {[]string{letters(251)}, []string{letters(252), "z"}}, {[]string{letters(600)}, []string{letters(600)}}, {[]string{"", letters(250), ""}, []string{"", "", ""}},
	} {
		was, will := fileOf(x.before...), fileOf(append(slices.Clone(x.before), x.texts...)...)
		first := 1 + len(rowOf(x.before...))/256
		n := len(will) - first // pages to write
		for in := range n + 5 {
			open := min(in, n) // that many writes are open at the failure
			if in == n+1 {
				open = 0
			}
			if in == n+2 {
				open = 1
			}
			for _, other := range []bool{false, true} {
				for keep := range uint64(1) << (open + 1) {
					stepFails(t, x.before, x.texts, was, will, first, in, keep, other)
				}
				stepFails(t, x.before, x.texts, was, will, first, in, all, other)
				stepFails(t, x.before, x.texts, was, will, first, in, ^uint64(1), other)
			}
		}
	}
}

// stepFails lets one step of an Append fail; with other, the disk has another file with an open write, number 0, ahead of all of the Append's.
func stepFails(t *testing.T, before, texts, was, will []string, first, in int, keep uint64, other bool) {
	t.Helper()
	what := fmt.Sprintf("%d entries behind %d, step %d fails, keep %b, other %v", len(texts), len(before), in, keep, other)
	d := holding(t, before...)
	shift := 0
	if other {
		shift = 1
		d.Create("x")
		d.Write("x", 0, []byte("x"))
	}
	l := opened(t, what, d, before...)
	n, steps := len(will)-first, d.Steps()
	d.Fail(in, keep)
	e := l.Append(batch(texts...)...)
	if in >= n+3 {
		is(t, what, e, api.OK)
		is(t, what+": steps", d.Steps(), steps+n+3)
		has(t, what, d, "f", will...)
		opened(t, what, d, append(slices.Clone(before), texts...)...)
		return
	}
	is(t, what, e, api.ErrCrash)
	is(t, what+": steps", d.Steps(), steps+in)
	is(t, what+": Count", l.Count(), len(before))
	d.On()
	is(t, what+": later", l.Append([]byte("x")), api.ErrCrash)
	is(t, what+": later", l.Append(), api.ErrCrash)
	pages := slices.Clone(was)
	for k := range min(in, n) {
		if in > n || keep>>(k+shift)&1 == 1 {
			for len(pages) <= first+k {
				pages = append(pages, "")
			}
			pages[first+k] = will[first+k]
		}
	}
	told := before
	if in == n+2 && keep>>shift&1 == 1 {
		pages[0] = will[0]
		told = append(slices.Clone(before), texts...)
	}
	has(t, what, d, "f", pages...)
	l = opened(t, what, d, told...)
	is(t, what+": goes on", l.Append([]byte("on")), api.OK)
	opened(t, what+", goes on", d, append(slices.Clone(told), "on")...)
}

// None of these is a step, or breaks the log.
func TestP10_2None(t *testing.T) {
	d := holding(t, "a")
	l := opened(t, "one", d, "a")
	c := d.Copy()
	is(t, "Append of none", l.Append(), api.OK)
	is(t, "Append of none", l.Append([][]byte{}...), api.OK)
	is(t, "Append of none", l.Append([][]byte(nil)...), api.OK)
	d.Fail(0, 0)
	c.Fail(0, 0)
	is(t, "Append of none", l.Append(), api.OK)
	alike(t, "Append of none", d, c)
	d.Sync("f")
	is(t, "the disk is off", d.Off(), true)
	is(t, "Append of none, off", l.Append(), api.OK)
	is(t, "Append of a long one, off", l.Append(make([]byte, 32769)), api.ErrLimit)
	is(t, "Count", l.Count(), 1)
	d.On()
	is(t, "Append of a nil entry", l.Append(nil), api.OK)
	opened(t, "a nil entry", d, "a", "")
}

func TestP10_2LongEntries(t *testing.T) {
	for _, before := range [][]string{nil, {"a", letters(300)}} {
		d := holding(t, before...)
		l := opened(t, "before", d, before...)
		c := d.Copy()
		for _, b := range [][]string{{letters(32769)}, {"x", letters(32769)}, {letters(32769), "x"}, {"", letters(40000), ""}, {letters(100000)}} {
			is(t, "Append of a long one", l.Append(batch(b...)...), api.ErrLimit)
			is(t, "Count", l.Count(), len(before))
		}
		alike(t, "Append of a long one", d, c)
		more := []string{letters(32768), "", letters(32767)}
		is(t, "Append of the longest", l.Append(batch(more...)...), api.OK)
		opened(t, "the longest", d, append(slices.Clone(before), more...)...)
	}
}

func TestP10_2ManyEntries(t *testing.T) {
	for _, x := range []struct{ before, more int }{{0, 65537}, {1, 65536}, {65535, 2}, {65536, 1}, {65536, 65536}, {30000, 35537}} {
		d := holding(t, times(x.before, "")...)
		l := opened(t, "before", d, times(x.before, "")...)
		c := d.Copy()
		is(t, fmt.Sprint(x.before, " and ", x.more), l.Append(make([][]byte, x.more)...), api.ErrLimit)
		is(t, "Count", l.Count(), x.before)
		alike(t, "too many", d, c)
		is(t, "as many as may be", l.Append(make([][]byte, 65536-x.before)...), api.OK)
		is(t, "Count", l.Count(), 65536)
		is(t, "one more", l.Append(nil), api.ErrLimit)
		is(t, "none", l.Append(), api.OK)
		l = opened(t, "as many as may be", d, times(65536, "")...)
		is(t, "one more", l.Append([]byte("x")), api.ErrLimit)
	}
}

// What broke a log is answered ever after, ahead of all else: when the disk is on again, has room again, has the file again.
func TestP10_2Broken(t *testing.T) {
	for _, x := range []struct {
		what       string
		want       api.Errno
		harm, mend func(d *disk.Disk)
	}{
		{"the power fails", api.ErrCrash, func(d *disk.Disk) { d.Fail(0, 0) }, func(d *disk.Disk) { d.On() }},
		{"the disk is off", api.ErrCrash, func(d *disk.Disk) { d.Fail(0, 0); d.Sync("x") }, func(d *disk.Disk) { d.On() }},
		{"no room", api.ErrQuota, func(d *disk.Disk) { d.Write("x", 0, nil); d.Write("x", 1, nil) }, func(d *disk.Disk) { d.Remove("x") }},
		{"no file", api.ErrNoFile, func(d *disk.Disk) { d.Remove("f") }, func(d *disk.Disk) { d.Create("f") }},
		{"another name", api.ErrNoFile, func(d *disk.Disk) { d.Rename("f", "g") }, func(d *disk.Disk) { d.Rename("g", "f") }},
		{"a shorter file", api.ErrPage, func(d *disk.Disk) { d.Rename("x", "f") }, func(d *disk.Disk) { d.Write("f", 0, nil) }},
	} {
		d := disk.New(5)
		d.Create("x")
		l := opened(t, x.what, d)
		is(t, x.what, l.Append([]byte("a"), []byte("b")), api.OK)
		x.harm(d)
		is(t, x.what, l.Append([]byte(letters(600))), x.want)
		x.mend(d)
		c := d.Copy()
		for range 2 {
			is(t, x.what+", later", l.Append([]byte("c")), x.want)
			is(t, x.what+", later, none", l.Append(), x.want)
			is(t, x.what+", later, long", l.Append(make([]byte, 32769)), x.want)
			is(t, x.what+", later, many", l.Append(make([][]byte, 65536)...), x.want)
			is(t, x.what+": Count", l.Count(), 2)
		}
		d.Fail(0, 0) // no later one meets another error
		is(t, x.what+", later", l.Append([]byte("c")), x.want)
		c.Fail(0, 0)
		alike(t, x.what, d, c)
	}
}

// The first error breaks it, not a later one.
func TestP10_2FirstErrorBreaks(t *testing.T) {
	d := disk.New(2)
	l := opened(t, "a new one", d)
	d.Fail(1, 0) // one page has room; the next one would fail, but has no room
	is(t, "Append", l.Append([]byte(letters(300))), api.ErrQuota)
	is(t, "Off", d.Off(), false)
	crash(d, 0)
	is(t, "Append", l.Append([]byte("x")), api.ErrQuota)
	opened(t, "behind it", d)
}

// Each page of a batch is the one for which there is no room; the head is not written, and another log goes on.
func TestP10_2Quota(t *testing.T) {
	for _, before := range [][]string{nil, {"a"}, {letters(252)}, {letters(253)}, {letters(600), ""}} {
		was := fileOf(before...)
		for _, n := range []int{252, 253, 1000, 2000} {
			will := fileOf(append(slices.Clone(before), letters(n))...)
			for room := len(was); room <= len(will); room++ {
				what := fmt.Sprintf("an entry of %d behind %d bytes, room for %d pages of %d", n, len(rowOf(before...)), room, len(will))
				d := disk.New(room)
				is(t, what, opened(t, what, d).Append(batch(before...)...), api.OK)
				l := opened(t, what, d, before...)
				steps := d.Steps()
				e := l.Append([]byte(letters(n)))
				if room == len(will) {
					is(t, what, e, api.OK)
					has(t, what, d, "f", will...)
					continue
				}
				is(t, what, e, api.ErrQuota)
				is(t, what+": off", d.Off(), false)
				is(t, what+": Count", l.Count(), len(before))
				first := 1 + len(rowOf(before...))/256
				is(t, what+": steps", d.Steps()-steps, room-first)
				has(t, what, d, "f", append(slices.Concat(was[:1], was[1:first]), will[first:room]...)...)
				is(t, what+": later", l.Append(nil), api.ErrQuota)
				c := d.Copy()
				crash(c, 0)
				has(t, what+", lost", c, "f", was...)
				for _, x := range []*disk.Disk{d, c} {
					k := opened(t, what, x, before...)
					told := before
					if len(rowOf(before...))%256 != 0 || room > len(was) { // a small one has room yet
						is(t, what+": goes on", k.Append([]byte("")), api.OK)
						told = append(slices.Clone(before), "")
					}
					opened(t, what+", goes on", x, told...)
				}
			}
		}
	}
}

// The greatest row there may be: a disk that is full but for nothing.
func TestP10_2FullDisk(t *testing.T) {
	d := disk.New(api.MaxQuota)
	l := opened(t, "a new one", d)
	texts := append(times(511, letters(32764)), letters(32764-256)) // 65535 pages
	is(t, "Append", l.Append(batch(texts...)...), api.OK)
	is(t, "Used", d.Used(), api.MaxQuota)
	l = opened(t, "a full disk", d, texts...)
	is(t, "one more", l.Append(nil), api.ErrQuota)
	opened(t, "a full disk", d, texts...)
}

// A batch that is far greater than the disk ends at the first page without room.
func TestP10_2GreatBatch(t *testing.T) {
	d := disk.New(10)
	l := opened(t, "a new one", d)
	one := []byte(letters(32768))
	is(t, "Append", l.Append(slices.Repeat([][]byte{one}, 60000)...), api.ErrQuota)
	is(t, "Steps", d.Steps(), 3+9)
	opened(t, "behind it", d)
}

func TestP10_3Count(t *testing.T) {
	var none *Log
	is(t, "of a nil log", none.Count(), 0)
	d := disk.New(99)
	l := opened(t, "a new one", d)
	n := 0
	for k := range 10 {
		is(t, "Append", l.Append(batch(times(k, letters(k))...)...), api.OK)
		n += k
		is(t, "Count", l.Count(), n)
		is(t, "Count again", l.Count(), n)
	}
	is(t, "Append of a long one", l.Append(nil, make([]byte, 32769)), api.ErrLimit)
	is(t, "Count", l.Count(), n)
	k, _, _ := Open(d, "f")
	is(t, "of another log", k.Count(), n)
	d.Fail(0, 0)
	d.Sync("f")
	is(t, "while the disk is off", l.Count(), n)
	is(t, "Append", l.Append(nil), api.ErrCrash)
	is(t, "of a broken one", l.Count(), n)
	d.On()
	is(t, "Append", l.Append(nil), api.ErrCrash)
	is(t, "of a broken one", l.Count(), n)
	d.Remove("f")
	is(t, "of one whose file is gone", k.Count(), n)
}

// A log whose last Sync fails does not count the batch, though the head may stay.
func TestP10_3CountOfWhatStays(t *testing.T) {
	d := holding(t, "a")
	l := opened(t, "one", d, "a")
	d.Fail(3, all)
	is(t, "Append", l.Append([]byte("b")), api.ErrCrash)
	is(t, "Count", l.Count(), 1)
	d.On()
	is(t, "Count", l.Count(), 1)
	opened(t, "it stays", d, "a", "b")
}

func TestP10_4HandedIn(t *testing.T) {
	d := disk.New(99)
	l := opened(t, "a new one", d)
	memory := []byte(letters(700))
	list := make([][]byte, 0, 5)
	list = append(list, memory[:3], memory[3:3], memory[10:500], memory[600:601])
	whole := list[:5]
	whole[4] = memory[650:]
	is(t, "Append", l.Append(list...), api.OK)
	is(t, "what is handed in", string(memory), letters(700))
	for k, x := range [][2]int{{0, 3}, {3, 3}, {10, 500}, {600, 601}, {650, 700}} {
		is(t, "the list's entry", string(whole[k]), letters(700)[x[0]:x[1]])
	}
	was := []string{letters(3), "", letters(700)[10:500], letters(700)[600:601]}
	// what is handed in is not kept: the page that the row has begun is what was appended
	for k := range memory {
		memory[k] = 0xff
	}
	is(t, "Append", l.Append([]byte("z")), api.OK)
	has(t, "the file", d, "f", fileOf(append(was, "z")...)...)
	is(t, "Append", l.Append(memory[:0]), api.OK)
	has(t, "the file", d, "f", fileOf(append(was, "z", "")...)...)
}

func TestP10_4NameIsNotKept(t *testing.T) {
	for _, there := range []bool{false, true} {
		d := disk.New(9)
		if there {
			_, _, e := Open(d, "name")
			is(t, "Open", e, api.OK)
		}
		name := []byte("name")
		l, _, e := Open(d, unsafe.String(&name[0], len(name)))
		is(t, "Open", e, api.OK)
		name[0] = 'X'
		is(t, "Append", l.Append([]byte("a")), api.OK)
		is(t, "Names", strings.Join(d.Names(), ","), "name")
		has(t, "the file", d, "name", fileOf("a")...)
	}
}

func TestP10_4NewMemory(t *testing.T) {
	entries := []string{"ab", letters(300), "", "c", ""}
	d := holding(t, entries...)
	l, told, _ := Open(d, "f")
	_, twin, _ := Open(d, "f")
	for k := range told {
		for i := range told[k] {
			told[k][i] = 0xff
		}
		_ = append(told[k], letters(50)...)
		for j := k + 1; j < len(told); j++ {
			is(t, "an entry, when one ahead of it is changed", string(told[j]), entries[j])
		}
	}
	tells(t, "another answer", twin, entries...)
	c := d.Copy()
	alike(t, "when entries are changed", d, c)
	is(t, "Append", l.Append([]byte("z")), api.OK)
	has(t, "the file", d, "f", fileOf(append(slices.Clone(entries), "z")...)...)
	_ = append(told[:0], []byte("y"), []byte("y"))
	opened(t, "behind it all", d, append(slices.Clone(entries), "z")...)
}

// Nothing but what the chapter says changes the file, and nothing changes another one.
func TestP10_4NothingElse(t *testing.T) {
	d := holding(t, "a", letters(300))
	for k, s := range fileOf("g", "h") {
		if k == 0 {
			d.Create("g")
		}
		d.Write("g", k, []byte(s)) // open
	}
	d.Create("junk")
	d.Write("junk", 0, []byte(letters(256)))
	c := d.Copy()
	l := opened(t, "f", d, "a", letters(300))
	l.Count()
	_, told, e := Open(d, "g")
	is(t, "Open", e, api.OK)
	tells(t, "g", told, "g", "h")
	refused(t, "junk", d, "junk", api.ErrTorn)
	is(t, "Append of a long one", l.Append(make([]byte, 32769)), api.ErrLimit)
	alike(t, "calls that only ask, or answer errors", d, c)
	is(t, "Append", l.Append([]byte("b")), api.OK)
	for k, s := range fileOf("a", letters(300), "b") {
		if k > 1 {
			c.Write("f", k, []byte(s))
		}
	}
	c.Sync("f")
	c.Write("f", 0, []byte(fileOf("a", letters(300), "b")[0]))
	c.Sync("f")
	alike(t, "an Append", d, c)
}

// Two logs on two files of one disk.
func TestP10_4TwoLogs(t *testing.T) {
	d := disk.New(99)
	f := opened(t, "f", d)
	g, _, _ := Open(d, "g")
	var a, b []string
	for k := range 30 {
		a = append(a, letters(37*k%300))
		b = append(b, letters(91*k%400), "x")
		is(t, "Append", f.Append([]byte(a[len(a)-1])), api.OK)
		is(t, "Append", g.Append(batch(b[len(b)-2:]...)...), api.OK)
	}
	has(t, "f", d, "f", fileOf(a...)...)
	has(t, "g", d, "g", fileOf(b...)...)
	d.Fail(2, 0)
	is(t, "Append", f.Append([]byte("lost")), api.ErrCrash)
	d.On()
	is(t, "the other one is not broken", g.Append([]byte("y")), api.OK)
	opened(t, "f", d, a...)
	_, told, _ := Open(d, "g")
	tells(t, "g", told, append(b, "y")...)
}

// Entries that are told, appended to a new log in any batches, are told alike, and make the same file.
func TestP10_5AnyBatches(t *testing.T) {
	for seed := range int64(200) {
		r := rand.New(rand.NewSource(seed))
		var entries []string
		for range r.Intn(12) {
			entries = append(entries, letters([]int{0, 0, 1, 7, 252, r.Intn(900)}[r.Intn(6)]))
		}
		d := holding(t, entries...)
		_, told, e := Open(d, "f")
		is(t, "Open", e, api.OK)
		for range 4 {
			c := disk.New(999)
			l := opened(t, "a new one", c)
			for left := told; len(left) > 0; {
				n := r.Intn(len(left) + 1)
				is(t, "Append", l.Append(left[:n]...), api.OK)
				left = left[n:]
			}
			opened(t, "in batches", c, entries...)
			has(t, "in batches", c, "f", fileOf(entries...)...)
		}
	}
}

// Logs alone write a file, while the power fails at drawn steps, whatever stays: what is told is all that was answered, and perhaps the batch under way.
func TestP10_5Power(t *testing.T) {
	crashes, stayed, full := 0, 0, 0
	for seed := range int64(600) {
		r := rand.New(rand.NewSource(seed))
		d := disk.New(4 + r.Intn(40))
		d.Create("x")
		var sure, way []string // answered, and under way
		var l *Log
		for range 60 {
			if r.Intn(3) == 0 {
				d.Fail(r.Intn(12), r.Uint64()&r.Uint64()|[]uint64{0, all, 1, 2, r.Uint64()}[r.Intn(5)])
			}
			if l == nil {
				k, told, e := Open(d, "f")
				if e == api.ErrCrash {
					d.On()
					continue
				}
				is(t, "Open", e, api.OK)
				if len(told) > len(sure) {
					stayed++
					sure = append(sure, way...)
				}
				tells(t, fmt.Sprint("seed ", seed), told, sure...)
				l, way = k, nil
			}
			d.Write("x", 0, []byte{byte(r.Int())}) // another file's open writes
			texts := drawnTexts(r)
			switch e := l.Append(batch(texts...)...); e {
			case api.OK:
				sure = append(sure, texts...)
			case api.ErrQuota:
				full++
				l = nil
			case api.ErrCrash:
				crashes++
				l, way = nil, texts
			default:
				t.Fatal(e)
			}
			if d.Off() {
				d.On()
				l = nil
			}
		}
	}
	if crashes < 1000 || stayed < 50 || full < 50 {
		t.Errorf("%d failures, %d batches that stayed, %d without room: too few", crashes, stayed, full)
	}
}

func drawnTexts(r *rand.Rand) []string {
	var l []string
	for range r.Intn(4) {
		l = append(l, letters([]int{0, 1, 248, 252, 253, r.Intn(30), r.Intn(300), r.Intn(1200)}[r.Intn(8)]))
	}
	return l
}

// No bytes of a file make Open panic, and what it tells may be appended.
func TestAnyBytes(t *testing.T) {
	for seed := range int64(3000) {
		r := rand.New(rand.NewSource(seed))
		pages := make([]string, 1+r.Intn(4))
		for k := range pages {
			b := make([]byte, 256)
			r.Read(b[:[]int{0, 1, 8, 16, 256}[r.Intn(5)]])
			pages[k] = string(b)
		}
		if r.Intn(2) == 0 {
			pages[0] = headOf(uint64(r.Intn(800)), uint64(r.Intn(5)))
		}
		d := wrote(t, pages...)
		l, told, e := Open(d, "f")
		if e != api.OK {
			is(t, "Open", e, api.ErrTorn)
			continue
		}
		var texts []string
		for _, b := range told {
			texts = append(texts, string(bytes.Clone(b)))
		}
		is(t, "Append", l.Append([]byte("z")), api.OK)
		opened(t, "behind it", d, append(texts, "z")...)
	}
}
