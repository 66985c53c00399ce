package tx

import (
	"strconv"

	"sluiceway/api"
	"sluiceway/lock"
)

// The letters that a transaction, and a witness behind it, begin with.
const (
	letterTx  = 'x'
	letterWit = 'w'
)

// Write: P12.2.
func Write(t api.Tx) (string, api.Errno) {
	if !Right(t) {
		return "", api.ErrTx
	}
	return string(appendTx(nil, t)), api.OK
}

// Read: P12.2. The reader takes a text apart in one way alone; whether what it says is right is asked as Write asks it, so that both take the same transactions.
func Read(s string) (api.Tx, api.Errno) {
	r := newReader(s)
	if !r.transaction() || r.Left != "" || !Right(r.told.Tx) {
		return api.Tx{}, api.ErrTx
	}
	return r.told.Tx, api.OK
}

// WriteSigned: P12.3.
func WriteSigned(s api.Signed) (string, api.Errno) {
	if !Whole(s) {
		return "", api.ErrTx
	}
	out := appendTx(nil, s.Tx)
	for _, w := range s.Wits {
		out = append(out, letterWit)
		out = appendTerms(out, w.Sigs)
		out = appendTerms(out, w.Pres)
	}
	return string(out), api.OK
}

// ReadSigned: P12.3.
func ReadSigned(s string) (api.Signed, api.Errno) {
	r := newReader(s)
	if !r.signed() || r.Left != "" || !Whole(r.told) {
		return api.Signed{}, api.ErrTx
	}
	return r.told, api.OK
}

// appendTx puts a right transaction, written, behind out: a lock's error is nobody's to see.
func appendTx(out []byte, t api.Tx) []byte {
	out = append(out, letterTx)
	out = appendNumber(out, int64(t.After), ';')
	out = appendNumber(out, t.Tag, ';')
	out = appendNumber(out, int64(len(t.Ins)), ':')
	for _, in := range t.Ins {
		out = append(out, in.Point.Tx...)
		out = appendNumber(out, int64(in.Point.N), ';')
		out = appendNumber(out, int64(in.Age), ';')
	}
	out = appendNumber(out, int64(len(t.Outs)), ':')
	for _, o := range t.Outs {
		text, _ := lock.Write(o.Lock)
		out = appendNumber(out, o.Value, ';')
		out = append(out, text...)
	}
	return out
}

func appendTerms(out []byte, l []api.Term) []byte {
	out = appendNumber(out, int64(len(l)), ':')
	for _, t := range l {
		out = append(out, t...)
	}
	return out
}

func appendNumber(out []byte, n int64, end byte) []byte {
	return append(strconv.AppendInt(out, n, 10), end)
}
