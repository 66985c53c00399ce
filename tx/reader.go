package tx

import (
	"strings"

	"sluiceway/api"
	"sluiceway/lock"
	"sluiceway/scan"
)

// reader goes over a text, part by part. The method of a part puts what it reads into what is told, and answers whether the text that is left begins with such a part. Whether the whole is right is not its to say.
type reader struct {
	scan.Text
	told api.Signed
}

func newReader(s string) *reader { return &reader{Text: scan.Text{Left: s}} }

func (r *reader) signed() bool { return each(r.transaction, r.wits) }

func (r *reader) transaction() bool { return each(r.begin, r.after, r.tag, r.ins, r.outs) }

func (r *reader) begin() bool { return r.Letter() == letterTx }

func (r *reader) after() bool {
	n := r.Number(';', maxTime)
	r.told.Tx.After = int(n)
	return n >= 0
}

func (r *reader) tag() bool {
	r.told.Tx.Tag = r.Number(';', maxTag)
	return r.told.Tx.Tag >= 0
}

func (r *reader) ins() bool { return r.list(api.MaxIO, r.in) }

func (r *reader) in() bool {
	id, ok := r.Bytes(idSize)
	n := r.Number(';', maxN)
	age := r.Number(';', maxTime)
	r.told.Tx.Ins = append(r.told.Tx.Ins, api.In{Point: api.Point{Tx: strings.Clone(id), N: int(n)}, Age: int(age)})
	return ok && n >= 0 && age >= 0
}

func (r *reader) outs() bool { return r.list(api.MaxIO, r.out) }

func (r *reader) out() bool {
	value := r.Number(';', api.MaxCoin)
	l, e := lock.Read(r.Lock())
	r.told.Tx.Outs = append(r.told.Tx.Outs, api.Out{Value: value, Lock: l})
	return value >= 0 && e == api.OK
}

// wits reads as many as there are Ins: how many there are is not written.
func (r *reader) wits() bool { return times(int64(len(r.told.Tx.Ins)), r.wit) }

func (r *reader) wit() bool {
	r.told.Wits = append(r.told.Wits, api.Witness{})
	return each(r.beginWit, r.sigs, r.pres)
}

func (r *reader) beginWit() bool { return r.Letter() == letterWit }

func (r *reader) sigs() bool { return r.list(api.MaxWit, r.sig) }

func (r *reader) sig() bool { return r.term(&r.last().Sigs) }

func (r *reader) pres() bool { return r.list(api.MaxWit, r.pre) }

func (r *reader) pre() bool { return r.term(&r.last().Pres) }

// last is the witness that is being read.
func (r *reader) last() *api.Witness { return &r.told.Wits[len(r.told.Wits)-1] }

func (r *reader) term(l *[]api.Term) bool {
	t := r.Term()
	*l = append(*l, api.Term(strings.Clone(t)))
	return t != ""
}

// list reads how many parts there are, at most so many, and these.
func (r *reader) list(most int64, part func() bool) bool {
	n := r.Number(':', most)
	return n >= 0 && times(n, part)
}

func times(n int64, part func() bool) bool {
	for range n {
		if !part() {
			return false
		}
	}
	return true
}

func each(parts ...func() bool) bool {
	for _, read := range parts {
		if !read() {
			return false
		}
	}
	return true
}
