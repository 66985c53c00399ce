package wire

import (
	"sluiceway/api"
	"sluiceway/tlv"
)

const (
	kindBytes = 2
	numBytes  = 8
)

// A row is bytes that are put one behind the other.
type row struct {
	bytes []byte
}

func (r *row) put(l ...byte) { r.bytes = append(r.bytes, l...) }

// putWide puts the lowest bytes of n, so many of them, the highest first.
func (r *row) putWide(n uint64, size int) {
	for size--; size >= 0; size-- {
		r.put(byte(n >> (8 * size)))
	}
}

// A writer puts a message's parts into the row that it is.
type writer struct {
	row
}

// putMessage puts a message that may be: the stream's error is nobody's to see.
func (w *writer) putMessage(m api.Msg) {
	w.putWide(uint64(m.Kind), kindBytes)
	w.putText(m.Chan)
	w.putCount(len(m.Nums))
	for _, n := range m.Nums {
		w.putWide(uint64(n), numBytes)
	}
	w.putCount(len(m.Terms))
	for _, t := range m.Terms {
		w.putText(string(t))
	}
	w.putText(m.Text)
	more, _ := tlv.Stream(m.More)
	w.put(more...)
}

func (w *writer) putCount(n int) { w.put(tlv.Put(uint64(n))...) }

func (w *writer) putText(s string) {
	w.putCount(len(s))
	w.put([]byte(s)...)
}
