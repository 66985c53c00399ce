package disk

import (
	"slices"

	"sluiceway/api"
)

type page [api.PageSize]byte

func pageOf(b []byte) page {
	var p page
	copy(p[:], b)
	return p
}

// content is a row of pages.
type content struct {
	pages []page
}

// put fills with noughts what is wanting ahead of the page: writes that brought it may be lost.
func (c *content) put(at int, p page) {
	for len(c.pages) <= at {
		c.pages = append(c.pages, page{})
	}
	c.pages[at] = p
}

func (c content) clone() content { return content{slices.Clone(c.pages)} }

// A write keeps which of the disk's steps it was: those of several files are told in their order by that.
type write struct {
	step int
	at   int
	what page
}

// A file is the content that calls are told: what is settled, changed by all that is open.
type file struct {
	content
	settled content
	open    []write
}

func (f *file) write(w write) {
	f.put(w.at, w.what)
	f.open = append(f.open, w)
}

func (f *file) sync() {
	for _, w := range f.open {
		f.settled.put(w.at, w.what)
	}
	f.open = nil
}

// restore makes the file what it is when the power is back.
func (f *file) restore(stays func(write) bool) {
	f.open = slices.DeleteFunc(f.open, func(w write) bool { return !stays(w) })
	f.sync()
	f.content = f.settled.clone()
}

func (f *file) clone() *file {
	return &file{content: f.content.clone(), settled: f.settled.clone(), open: slices.Clone(f.open)}
}
