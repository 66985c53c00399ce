package disk

import (
	"fmt"
	"strconv"
	"strings"
	"testing"

	"sluiceway/api"
)

// A script is lines of calls, each with what it answers behind a =, made on a disk and on its model. A page is told by a letter and how many bytes of it there are ahead of noughts (A3; A is 256 of them), one of noughts by 0. A name of many bytes is x100, one of none is -.

func named(word string) string {
	if word == "-" {
		return ""
	}
	if n, err := strconv.Atoi(word[1:]); word[0] == 'x' && err == nil {
		return strings.Repeat("x", n)
	}
	return word
}

func written(word string) []byte {
	n := api.PageSize
	if len(word) > 1 {
		n, _ = strconv.Atoi(word[1:])
	}
	return []byte(strings.Repeat(word[:1], n))
}

// shown is a page as a script tells it.
func shown(b []byte) string {
	s := strings.TrimRight(string(b), "\x00")
	switch {
	case len(b) != 256 || s != "" && strings.Trim(s, s[:1]) != "":
		return fmt.Sprintf("%d:%x", len(b), b)
	case s == "":
		return "0"
	case len(s) == 256:
		return s[:1]
	}
	return s[:1] + strconv.Itoa(len(s))
}

func errName(e api.Errno) string {
	names := map[api.Errno]string{0: "OK", 1: "ErrNil", 2: "ErrArg", 3: "ErrLimit", 7: "ErrCrash", 90: "ErrThere", 91: "ErrNoFile", 92: "ErrPage", 93: "ErrQuota"}
	if s := names[e]; s != "" {
		return s
	}
	return fmt.Sprint("error ", int(e))
}

// list is texts with commas between, or - where there are none.
func list(l []string) string {
	if len(l) == 0 {
		return "-"
	}
	return strings.Join(l, ",")
}

// pagesOf is all pages of a file.
func pagesOf(d calls, name string) string {
	n, e := d.Len(name)
	if e != api.OK {
		return errName(e)
	}
	var l []string
	for k := range n {
		l = append(l, readOf(d, name, k))
	}
	return list(l)
}

func readOf(d calls, name string, page int) string {
	b, e := d.Read(name, page)
	if e == api.OK {
		return shown(b)
	}
	if len(b) != 0 {
		return fmt.Sprintf("%x beside %s", b, errName(e))
	}
	return errName(e)
}

func lenOf(d calls, name string) string {
	n, e := d.Len(name)
	if e == api.OK {
		return strconv.Itoa(n)
	}
	if n != 0 {
		return fmt.Sprintf("%d beside %s", n, errName(e))
	}
	return errName(e)
}

// answer makes a call on a disk, and tells what it answers.
func answer(d calls, call string) string {
	w := append(strings.Fields(call), "-", "-", "-")
	number := func(k int) int { n, _ := strconv.Atoi(w[k]); return n }
	switch w[0] {
	case "create":
		return errName(d.Create(named(w[1])))
	case "write":
		return errName(d.Write(named(w[1]), number(2), written(w[3])))
	case "sync":
		return errName(d.Sync(named(w[1])))
	case "rename":
		return errName(d.Rename(named(w[1]), named(w[2])))
	case "remove":
		return errName(d.Remove(named(w[1])))
	case "read":
		return readOf(d, named(w[1]), number(2))
	case "len":
		return lenOf(d, named(w[1]))
	case "pages":
		return pagesOf(d, named(w[1]))
	case "names":
		return list(d.Names())
	case "used":
		return strconv.Itoa(d.Used())
	case "steps":
		return strconv.Itoa(d.Steps())
	case "off":
		return strconv.FormatBool(d.Off())
	case "on":
		d.On()
		return ""
	case "fail":
		keep, _ := strconv.ParseUint(w[2], 0, 64)
		d.Fail(number(1), keep)
		return ""
	}
	return "no call: " + call
}

// play makes a script's calls.
func play(t *testing.T, d calls, script string) {
	t.Helper()
	for _, line := range strings.Split(script, "\n") {
		line, _, _ = strings.Cut(line, "//")
		for call := range strings.SplitSeq(line, ";") {
			call, want, _ := strings.Cut(call, "=")
			call, want = strings.TrimSpace(call), strings.TrimSpace(want)
			if call == "" {
				continue
			}
			if have := answer(d, call); have != want {
				t.Fatalf("%T: %s: %s, want %s", d, call, have, want)
			}
		}
	}
}

// plays makes a script's calls on a new disk and on its model.
func plays(t *testing.T, quota int, script string) (*Disk, *model) {
	t.Helper()
	d, m := New(quota), newModel(quota)
	play(t, m, script)
	play(t, d, script)
	alike(t, "behind the script", d, m)
	return d, m
}

// told is all that those calls tell that only ask.
func told(d calls) string {
	s := fmt.Sprintf("off %v, used %d, steps %d;", d.Off(), d.Used(), d.Steps())
	for _, name := range d.Names() {
		s += fmt.Sprintf(" %q %s", name, pagesOf(d, name))
	}
	return s
}

// nudge makes a step, or lets the failure come to pass that is set at it.
func nudge(d calls) api.Errno {
	if l := d.Names(); len(l) > 0 {
		return d.Sync(l[0])
	}
	return d.Create("nudged")
}

// crash lets the power fail at the next step, with that keep, and come back.
func crash(d calls, keep uint64) {
	d.Fail(0, keep)
	nudge(d)
	d.On()
}

// keeps are so unlike that writes of numbers that are unlike modulo 64 are told apart.
func keeps() []uint64 {
	return []uint64{0, 1<<64 - 1, 0x5555555555555555, 0x3333333333333333, 0x0f0f0f0f0f0f0f0f, 0x00ff00ff00ff00ff, 0x0000ffff0000ffff, 0x00000000ffffffff, 1, 1 << 63}
}

// later tells what becomes of a disk in some steps, if nothing else befalls it, and when it is on again.
func later(d calls) string {
	s := ""
	for range 5 {
		s += errName(nudge(d)) + " "
	}
	s += told(d)
	d.On()
	return s + told(d)
}

// alike holds a disk against its model: what it tells now, in some steps, and behind failures.
func alike(t *testing.T, what string, d *Disk, m *model) {
	t.Helper()
	if a, b := told(d), told(m); a != b {
		t.Fatalf("%s:\nhave %s\nwant %s", what, a, b)
	}
	if a, b := later(d.Copy()), later(m.twin()); a != b {
		t.Fatalf("%s, some steps later:\nhave %s\nwant %s", what, a, b)
	}
	for _, keep := range keeps() {
		c, n := d.Copy(), m.twin()
		crash(c, keep)
		crash(n, keep)
		if a, b := told(c), told(n); a != b {
			t.Fatalf("%s, behind a failure with %x:\nhave %s\nwant %s", what, keep, a, b)
		}
	}
}
