package disk

import (
	"fmt"
	"maps"
	"math/rand"
	"slices"
	"strings"
	"testing"

	"sluiceway/api"
)

// The model: the chapter's words, by other means than the program's. Names stand for files' numbers; a Sync copies all of a file; the open writes of all files stand in one list, out of which those of a file that is synced or gone are taken.

type calls interface {
	Create(string) api.Errno
	Write(string, int, []byte) api.Errno
	Sync(string) api.Errno
	Rename(string, string) api.Errno
	Remove(string) api.Errno
	Read(string, int) ([]byte, api.Errno)
	Len(string) (int, api.Errno)
	Names() []string
	Used() int
	Steps() int
	Fail(int, uint64)
	On()
	Off() bool
}

type late struct {
	file, page int
	text       string
}

type model struct {
	quota, made, steps int
	names              map[string]int
	now, synced        map[int][]string
	open               []late
	failures           []uint64 // the keep of the failure that is set, if there is one
	in                 int
	off                bool
}

func newModel(quota int) *model {
	if quota < 0 {
		quota = 0
	}
	if quota > 65536 {
		quota = 65536
	}
	return &model{quota: quota, names: map[string]int{}, now: map[int][]string{}, synced: map[int][]string{}}
}

func (m *model) twin() *model {
	c := *m
	c.names, c.open, c.failures = maps.Clone(m.names), slices.Clone(m.open), slices.Clone(m.failures)
	c.now, c.synced = map[int][]string{}, map[int][]string{}
	for k, l := range m.now {
		c.now[k] = slices.Clone(l)
	}
	for k, l := range m.synced {
		c.synced[k] = slices.Clone(l)
	}
	return &c
}

// fails is asked where a call would answer OK: a step.
func (m *model) fails() bool {
	if len(m.failures) == 1 && m.in == 0 {
		m.off = true
		return true
	}
	m.in--
	m.steps++
	return false
}

// forget takes the open writes of a file away.
func (m *model) forget(file int) {
	m.open = slices.DeleteFunc(m.open, func(w late) bool { return w.file == file })
}

func (m *model) drop(name string) {
	if k, there := m.names[name]; there {
		m.forget(k)
		delete(m.names, name)
		delete(m.now, k)
		delete(m.synced, k)
	}
}

func (m *model) Create(name string) api.Errno {
	_, there := m.names[name]
	switch {
	case m.off:
		return 7
	case name == "" || len(name) > 100:
		return 2
	case there:
		return 90
	case len(m.names) == 256:
		return 3
	case m.fails():
		return 7
	}
	m.made++
	m.names[name] = m.made
	return 0
}

func (m *model) Remove(name string) api.Errno {
	_, there := m.names[name]
	switch {
	case m.off:
		return 7
	case !there:
		return 91
	case m.fails():
		return 7
	}
	m.drop(name)
	return 0
}

func (m *model) Rename(from, to string) api.Errno {
	k, there := m.names[from]
	switch {
	case m.off:
		return 7
	case !there:
		return 91
	case to == "" || len(to) > 100:
		return 2
	case m.fails():
		return 7
	case from == to:
		return 0
	}
	m.drop(to)
	delete(m.names, from)
	m.names[to] = k
	return 0
}

func (m *model) Write(name string, page int, b []byte) api.Errno {
	k, there := m.names[name]
	switch {
	case m.off:
		return 7
	case !there:
		return 91
	case len(b) > 256:
		return 2
	case page < 0 || page > len(m.now[k]):
		return 92
	case page == len(m.now[k]) && m.Used() == m.quota:
		return 93
	case m.fails():
		return 7
	}
	text := string(b) + strings.Repeat("\x00", 256-len(b))
	m.now[k] = with(m.now[k], page, text)
	m.open = append(m.open, late{k, page, text})
	return 0
}

// with is pages with another one at a place.
func with(l []string, page int, text string) []string {
	l = slices.Clone(l)
	for page >= len(l) {
		l = append(l, strings.Repeat("\x00", 256))
	}
	l[page] = text
	return l
}

func (m *model) Sync(name string) api.Errno {
	k, there := m.names[name]
	switch {
	case m.off:
		return 7
	case !there:
		return 91
	case m.fails():
		return 7
	}
	m.synced[k] = slices.Clone(m.now[k])
	m.forget(k)
	return 0
}

func (m *model) Read(name string, page int) ([]byte, api.Errno) {
	k, there := m.names[name]
	switch {
	case m.off:
		return nil, 7
	case !there:
		return nil, 91
	case page < 0 || page >= len(m.now[k]):
		return nil, 92
	}
	return []byte(m.now[k][page]), 0
}

func (m *model) Len(name string) (int, api.Errno) {
	k, there := m.names[name]
	switch {
	case m.off:
		return 0, 7
	case !there:
		return 0, 91
	}
	return len(m.now[k]), 0
}

func (m *model) Names() []string {
	if m.off {
		return nil
	}
	return slices.Sorted(maps.Keys(m.names))
}

func (m *model) Used() int {
	n := 0
	for _, l := range m.now {
		n += len(l)
	}
	return n
}

func (m *model) Steps() int { return m.steps }

func (m *model) Fail(in int, keep uint64) {
	if m.off {
		return
	}
	m.failures, m.in = []uint64{keep}, in
	if in < 0 {
		m.in = 0
	}
}

func (m *model) On() {
	if !m.off {
		return
	}
	bits := strings.Split(fmt.Sprintf("%064b", m.failures[0]), "")
	slices.Reverse(bits)
	m.now = map[int][]string{}
	for k, l := range m.synced {
		m.now[k] = slices.Clone(l)
	}
	for n, w := range m.open {
		if bits[n%64] == "1" {
			m.now[w.file] = with(m.now[w.file], w.page, w.text)
		}
	}
	m.synced, m.open, m.failures, m.off = maps.Clone(m.now), nil, nil, false
}

func (m *model) Off() bool { return m.off }

// drawn is a call, the more often a write; names are few, so that files meet.
func drawn(r *rand.Rand) string {
	names := []string{"a", "b", "c", "d", "a", "b", "c", "-", "x100", "x101"}
	name := names[r.Intn(len(names))]
	switch r.Intn(17) {
	case 0, 1:
		return "create " + name
	case 2:
		return "sync " + name
	case 3:
		return "rename " + name + " " + names[r.Intn(len(names))]
	case 4:
		return "remove " + name
	case 5:
		return fmt.Sprint("read ", name, " ", r.Intn(7)-1)
	case 6:
		return "len " + name
	case 7:
		return "names"
	case 8:
		return fmt.Sprint("fail ", r.Intn(12)-1, " ", r.Uint64()&r.Uint64()|keeps()[r.Intn(len(keeps()))])
	case 9, 10:
		return "on"
	}
	return fmt.Sprintf("write %s %d %c%d", name, r.Intn(7)-1, 'A'+r.Intn(26), []int{0, 1, 3, 255, 256, 256, 257}[r.Intn(7)])
}

// both makes the last of some calls on a disk and on its model.
func both(t *testing.T, done []string, d *Disk, m *model) {
	t.Helper()
	call := done[len(done)-1]
	if a, b := answer(d, call), answer(m, call); a != b {
		t.Fatalf("%q: have %s, want %s", done, a, b)
	}
}

// TestDrawn makes drawn calls; now and then a copy goes on, while calls are made on what it is a copy of.
func TestDrawn(t *testing.T) {
	for seed := range int64(1500) {
		r := rand.New(rand.NewSource(seed))
		quota := r.Intn(14) - 1
		d, m := New(quota), newModel(quota)
		var old []*Disk
		var made []string
		for range 120 {
			made = append(made, drawn(r))
			both(t, made, d, m)
			if r.Intn(20) == 0 {
				alike(t, fmt.Sprintf("%q", made), d, m)
			}
			if r.Intn(40) == 0 {
				old = append(old, d)
				d = d.Copy()
			}
			for _, x := range old {
				answer(x, drawn(r))
			}
		}
		alike(t, fmt.Sprintf("%q", made), d, m)
	}
}

// TestAllShortRows makes all rows of three calls, on a disk with two files, and holds it against the model behind each of them.
func TestAllShortRows(t *testing.T) {
	each := []string{"write f 0", "write f 1", "write g 0", "write g 2", "sync f", "sync g", "rename f g", "rename g f", "rename f f", "remove f", "create f", "fail 0 5", "fail 1 2", "on"}
	var deeper func(left int, done []string, d *Disk, m *model)
	deeper = func(left int, done []string, d *Disk, m *model) {
		if left == 0 {
			alike(t, fmt.Sprintf("%q", done), d, m)
			return
		}
		for _, call := range each {
			if strings.HasPrefix(call, "write") {
				call += fmt.Sprintf(" %c", 'A'+len(done))
			}
			d, m, done := d.Copy(), m.twin(), append(slices.Clone(done), call)
			both(t, done, d, m)
			deeper(left-1, done, d, m)
		}
	}
	d, m := plays(t, 4, "create f = OK; create g = OK; write f 0 X = OK; write g 0 Y = OK; write g 1 Z = OK")
	deeper(3, nil, d, m)
}

// TestManyOpenWrites draws hundreds of open writes of many files, of which few are synced, renamed and removed.
func TestManyOpenWrites(t *testing.T) {
	for seed := range int64(40) {
		r := rand.New(rand.NewSource(seed))
		d, m := New(300), newModel(300)
		most := 0
		for k := range 1500 {
			name, call := fmt.Sprint("f", r.Intn(12)), ""
			n, _ := d.Len(name)
			switch r.Intn(100) {
			case 0:
				call = "sync " + name
			case 1:
				call = fmt.Sprint("rename ", name, " f", r.Intn(12))
			case 2:
				call = "remove " + name
			case 3, 4, 5:
				call = "create " + name
			default:
				call = fmt.Sprintf("write %s %d %c%d", name, r.Intn(n+1), 'A'+r.Intn(26), 1+r.Intn(256))
			}
			both(t, []string{call}, d, m)
			if most = max(most, len(m.open)); k%100 == 0 {
				alike(t, fmt.Sprint("seed ", seed, ", call ", k), d, m)
			}
		}
		if most < 128 {
			t.Errorf("seed %d: never more than %d open writes", seed, most)
		}
	}
}
