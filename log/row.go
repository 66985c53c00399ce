package log

import (
	"iter"
	"slices"

	"sluiceway/api"
)

// How many bytes the numbers have: the two of a head, and that of an entry.
const (
	headBytes  = 8
	entryBytes = 4
)

// A row is what its head says, and what it has of a page that it has begun and not filled: the next batch writes that page anew.
type row struct {
	length int
	count  int
	begun  []byte
}

func (r row) head() []byte {
	return slices.Concat(digits(r.length, headBytes), digits(r.count, headBytes))
}

// readHead reads page 0, if it is the head of a row for which there is room.
func readHead(page []byte, room int) (row, bool) {
	length, count, rest := number(page[:headBytes]), number(page[headBytes:2*headBytes]), page[2*headBytes:]
	if length > uint64(room) || count > api.MaxEvents || slices.ContainsFunc(rest, isNoNought) {
		return row{}, false
	}
	return row{length: int(length), count: int(count)}, true
}

// readEntries reads a row's bytes, if they are just so many entries.
func readEntries(b []byte, count int) ([][]byte, bool) {
	var entries [][]byte
	for range count {
		if len(b) < entryBytes {
			return nil, false
		}
		n, behind := number(b[:entryBytes]), b[entryBytes:]
		if n > api.MaxMsg || n > uint64(len(behind)) {
			return nil, false
		}
		entries = append(entries, slices.Clone(behind[:n]))
		b = behind[n:]
	}
	return entries, len(b) == 0
}

// pages cuts what the row has begun, and a batch behind it, into pages, each beside its place in the file; the last one may be short.
func (r row) pages(entries [][]byte) iter.Seq2[int, []byte] {
	return func(yield func(int, []byte) bool) {
		at, page := 1+r.length/api.PageSize, slices.Clone(r.begun)
		for piece := range pieces(entries) {
			for len(piece) > 0 {
				n := min(len(piece), api.PageSize-len(page))
				page, piece = append(page, piece[:n]...), piece[n:]
				if len(page) < api.PageSize {
					continue
				}
				if !yield(at, page) {
					return
				}
				at, page = at+1, nil
			}
		}
		if len(page) > 0 {
			yield(at, page)
		}
	}
}

// pieces tells a batch's bytes: of each entry how many it has, and these.
func pieces(entries [][]byte) iter.Seq[[]byte] {
	return func(yield func([]byte) bool) {
		for _, entry := range entries {
			if !yield(digits(len(entry), entryBytes)) || !yield(entry) {
				return
			}
		}
	}
}

func lengthOf(entries [][]byte) int {
	n := 0
	for _, entry := range entries {
		n += entryBytes + len(entry)
	}
	return n
}

// number reads bytes, the highest first.
func number(b []byte) uint64 {
	n := uint64(0)
	for _, x := range b {
		n = n<<8 | uint64(x)
	}
	return n
}

// digits writes a number's lowest bytes, so many, the highest first.
func digits(n, size int) []byte {
	b := make([]byte, size)
	for k := range b {
		b[size-1-k] = byte(n >> (8 * k))
	}
	return b
}

func isTooLong(entry []byte) bool { return len(entry) > api.MaxMsg }

func isNoNought(b byte) bool { return b != 0 }
