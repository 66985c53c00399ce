package log

import (
	"encoding/binary"
	"fmt"
	"io"
	"math/big"
	"math/rand"
	"slices"
	"strings"
	"testing"

	"sluiceway/api"
	"sluiceway/disk"
)

// The model: the chapter's words, by other means than the program's. A log keeps all its entries; a row is read to its end, and written out whole for each batch.
type model struct {
	d      *disk.Disk
	name   string
	kept   []string
	broken api.Errno
}

func openModel(d *disk.Disk, name string) (*model, api.Errno) {
	if d == nil {
		return nil, 1
	}
	if d.Off() {
		return nil, 7
	}
	if !slices.Contains(d.Names(), name) {
		if e := d.Create(name); e != 0 {
			return nil, e
		}
	}
	m := &model{d: d, name: name}
	text := strings.Join(file(d, name), "")
	if text == "" {
		if e := d.Write(name, 0, make([]byte, 256)); e != 0 {
			return nil, e
		}
		if e := d.Sync(name); e != 0 {
			return nil, e
		}
		return m, 0
	}
	var ok bool
	if m.kept, ok = readModel(text); !ok {
		return nil, 100
	}
	return m, 0
}

func readModel(text string) ([]string, bool) {
	length, count := new(big.Int).SetBytes([]byte(text[:8])), new(big.Int).SetBytes([]byte(text[8:16]))
	if strings.Trim(text[16:256], "\x00") != "" || length.Cmp(big.NewInt(int64(len(text)-256))) > 0 || count.Cmp(big.NewInt(65536)) > 0 {
		return nil, false
	}
	r := strings.NewReader(text[256 : 256+length.Int64()])
	var l []string
	for r.Len() > 0 {
		var n uint32
		if binary.Read(r, binary.BigEndian, &n) != nil || n > 32768 {
			return nil, false
		}
		b := make([]byte, n)
		if _, err := io.ReadFull(r, b); err != nil {
			return nil, false
		}
		l = append(l, string(b))
	}
	return l, count.Cmp(big.NewInt(int64(len(l)))) == 0
}

func (m *model) append(texts ...string) api.Errno {
	if m.broken != 0 || len(texts) == 0 {
		return m.broken
	}
	longest := 0
	for _, s := range texts {
		longest = max(longest, len(s))
	}
	if longest > 32768 || len(m.kept)+len(texts) > 65536 {
		return 3
	}
	whole := append(slices.Clone(m.kept), texts...)
	m.broken = m.write(len(rowOf(m.kept...))/256, fileOf(whole...))
	if m.broken == 0 {
		m.kept = whole
	}
	return m.broken
}

// write writes a log's file, but for so many pages of its row.
func (m *model) write(from int, pages []string) api.Errno {
	for k := 1 + from; k < len(pages); k++ {
		if e := m.d.Write(m.name, k, []byte(pages[k])); e != 0 {
			return e
		}
	}
	if e := m.d.Sync(m.name); e != 0 {
		return e
	}
	if e := m.d.Write(m.name, 0, []byte(pages[0])); e != 0 {
		return e
	}
	return m.d.Sync(m.name)
}

// A pair is a disk with logs, and its model.
type pair struct {
	d, c *disk.Disk
	l    map[string]*Log
	m    map[string]*model
}

func (p *pair) open(t *testing.T, what, name string) {
	t.Helper()
	l, told, e := Open(p.d, name)
	m, want := openModel(p.c, name)
	is(t, what+": Open", e, want)
	if e != api.OK {
		if l != nil || len(told) != 0 {
			t.Fatalf("%s: beside the error a log (%v) or %d entries", what, l != nil, len(told))
		}
		delete(p.l, name)
		delete(p.m, name)
		return
	}
	tells(t, what, told, m.kept...)
	is(t, what+": Count", l.Count(), len(m.kept))
	p.l[name], p.m[name] = l, m
}

func (p *pair) append(t *testing.T, what, name string, texts []string) {
	t.Helper()
	if p.l[name] == nil {
		return
	}
	is(t, what+": Append", p.l[name].Append(batch(texts...)...), p.m[name].append(texts...))
	is(t, what+": Count", p.l[name].Count(), len(p.m[name].kept))
}

// both makes a call on both disks.
func (p *pair) both(call func(d *disk.Disk)) {
	call(p.d)
	call(p.c)
}

// spoil writes another page into a log's file: a log that was open on it is given up.
func (p *pair) spoil(r *rand.Rand, name string) {
	n, e := p.d.Len(name)
	if e != api.OK || n == 0 {
		return
	}
	at := r.Intn(n)
	b, _ := p.d.Read(name, at)
	switch r.Intn(5) {
	case 0:
		b[r.Intn(256)] ^= 1 << r.Intn(8)
	case 1:
		b[r.Intn(20)] += byte(1 + r.Intn(3))
	case 2:
		at, b = 0, []byte(headOf(uint64(r.Intn(256*n)), uint64(r.Intn(9))))
	case 3:
		b = []byte(letters(r.Intn(257)))
	case 4:
		at = n
	}
	p.both(func(d *disk.Disk) { d.Write(name, at, b) })
	delete(p.l, name)
	delete(p.m, name)
}

// TestDrawn makes drawn calls on logs of two files and on their models: batches, failures, other files' writes, files that are spoilt, removed and renamed.
func TestDrawn(t *testing.T) {
	for seed := range int64(1500) {
		r := rand.New(rand.NewSource(seed))
		quota := []int{0, 1, 2, 5, 12, 30, 200}[r.Intn(7)]
		p := &pair{disk.New(quota), disk.New(quota), map[string]*Log{}, map[string]*model{}}
		names := []string{"f", "g"}
		for k := range 80 {
			name := names[r.Intn(2)]
			what := fmt.Sprintf("seed %d, call %d", seed, k)
			switch r.Intn(16) {
			case 0, 1:
				p.open(t, what, []string{name, name, name, name, "", letters(101), letters(100)}[r.Intn(7)])
			case 2:
				in, keep := r.Intn(9), r.Uint64()&r.Uint64()|[]uint64{0, all, 1, 2}[r.Intn(4)]
				p.both(func(d *disk.Disk) { d.Fail(in, keep) })
			case 3, 4:
				p.both((*disk.Disk).On)
				p.open(t, what, name)
			case 5:
				p.both(func(d *disk.Disk) { d.Create("x"); d.Write("x", 0, []byte("x")) })
			case 6:
				if r.Intn(3) == 0 {
					p.both(func(d *disk.Disk) { d.Remove("x") })
				}
			case 7:
				if r.Intn(2) == 0 {
					p.spoil(r, name)
					p.open(t, what, name)
				}
			case 8:
				if r.Intn(5) == 0 {
					p.both(func(d *disk.Disk) { d.Remove(name) })
				}
			case 9:
				p.append(t, what, name, append(drawnTexts(r), letters(32768+r.Intn(2))))
			default:
				p.append(t, what, name, drawnTexts(r))
			}
			if r.Intn(20) == 0 {
				alike(t, what, p.d, p.c)
			}
		}
		alike(t, fmt.Sprint("seed ", seed), p.d, p.c)
	}
}

// TestDrawnFiles opens files whose heads and rows are drawn, the more often such as are nearly right.
func TestDrawnFiles(t *testing.T) {
	right, torn := 0, 0
	for seed := range int64(20000) {
		r := rand.New(rand.NewSource(seed))
		pages := fileOf(drawnTexts(r)...)
		text := []byte(strings.Join(pages, ""))
		for range r.Intn(3) {
			at := r.Intn(min(len(text), []int{16, 16, 256, 300, len(text)}[r.Intn(5)]))
			text[at] += byte([]int{1, 2, 4, 255, 252, r.Intn(256)}[r.Intn(6)])
		}
		d := wrote(t, cut(string(text))...)
		c := d.Copy()
		p := &pair{d, c, map[string]*Log{}, map[string]*model{}}
		what := fmt.Sprint("seed ", seed)
		p.open(t, what, "f")
		if p.l["f"] == nil {
			torn++
		} else {
			right++
			p.append(t, what, "f", drawnTexts(r))
		}
		if seed%10 == 0 {
			alike(t, what, d, c)
		}
	}
	if right < 3000 || torn < 3000 {
		t.Errorf("%d files that are right, %d torn: too few", right, torn)
	}
}
