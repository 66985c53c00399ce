package invoice

import (
	"strconv"
	"strings"

	"sluiceway/api"
	"sluiceway/money"
)

// A unit is what stands behind a number of them, and how many thousandths of a satoshi one is.
type unit struct {
	mark string
	msat int64
}

// The greatest one comes first. A thousandth is ten of what p stands for: its nought is taken as part of the mark.
var units = [...]unit{
	{"", 100000000000},
	{"m", 100000000},
	{"u", 100000},
	{"n", 100},
	{"0p", 1},
}

// Amount: P7.1. The text is cloned, as strconv tells short numbers out of memory that all of them share.
func Amount(msat int64) (string, api.Errno) {
	if !money.Right(msat) {
		return "", api.ErrMoney
	}
	if msat == 0 {
		return "", api.OK
	}
	at := 0
	for msat%units[at].msat != 0 {
		at++
	}
	return strings.Clone(strconv.FormatInt(msat/units[at].msat, 10) + units[at].mark), api.OK
}

// Read: P7.1. A number that an int64 can't hold is above all amounts of every unit.
func Read(s string) (int64, api.Errno) {
	if s == "" {
		return 0, api.OK
	}
	at := unitOf(s)
	u := units[at]
	digits := strings.TrimSuffix(s, u.mark)
	if !isNumber(digits) || at > 0 && rest(digits, units[at-1].msat/u.msat) == 0 {
		return 0, api.ErrInvoice
	}
	n, err := strconv.ParseInt(digits, 10, 64)
	if err != nil || n > api.MaxMoney/u.msat {
		return 0, api.ErrMoney
	}
	return n * u.msat, api.OK
}

// unitOf is the place of the unit whose mark s has. It begins at the end, as every text has the mark of the first one.
func unitOf(s string) int {
	at := len(units) - 1
	for !strings.HasSuffix(s, units[at].mark) {
		at--
	}
	return at
}

// isNumber tells the digits of a number from 1 on.
func isNumber(s string) bool {
	return s != "" && s[0] != '0' && strings.Trim(s, "0123456789") == ""
}

// rest is what is left when the number is divided, however many digits it has.
func rest(digits string, by int64) int64 {
	var left int64
	for i := range len(digits) {
		left = (left*10 + int64(digits[i]-'0')) % by
	}
	return left
}
