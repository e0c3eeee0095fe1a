package exact

import (
	"strconv"
	"strings"

	"canting/api"
)

// Digits are read and printed in groups that fit a word.
const (
	groupDigits = 9
	groupBase   = 1_000_000_000
)

// Print returns the decimal digits, behind a minus sign if a is below zero.
func Print(a api.Int) (string, api.Errno) {
	if !allValid(a) {
		return "", api.ErrArg
	}
	return wholeOf(a).text(), api.OK
}

// Parse returns the Int of which Print returns s.
func Parse(s string) (api.Int, api.Errno) {
	a, ok := read(s)
	if !ok {
		return api.Int{}, api.ErrForm
	}
	return intOf(a), api.OK
}

// RatPrint returns a fraction as a string: a whole number without a denominator.
func RatPrint(f api.Rat) (string, api.Errno) {
	if !allValidRats(f) {
		return "", api.ErrArg
	}
	g := fractionOf(f)
	if g.den.isOne() {
		return g.num.text(), api.OK
	}
	return g.num.text() + "/" + g.den.text(), api.OK
}

// RatParse returns the fraction of which RatPrint returns s.
func RatParse(s string) (api.Rat, api.Errno) {
	top, bottom, divided := strings.Cut(s, "/")
	f := fraction{den: small(1)}
	ok := true
	if divided {
		f.den, ok = read(bottom)
		ok = ok && !f.den.isOne()
	}
	if ok {
		f.num, ok = read(top)
	}
	if !ok || !f.lowest() {
		return api.Rat{}, api.ErrForm
	}
	return ratOf(f), api.OK
}

func (a whole) text() string {
	if a.negative {
		return "-" + a.size.text()
	}
	return a.size.text()
}

func (a natural) text() string {
	if len(a) == 0 {
		return "0"
	}
	var groups []uint32
	for len(a) > 0 {
		rest, group := a.divideWord(groupBase)
		groups = append(groups, group)
		a = rest
	}
	var s strings.Builder
	for i := len(groups) - 1; i >= 0; i-- {
		digits := strconv.FormatUint(uint64(groups[i]), 10)
		if s.Len() > 0 {
			s.WriteString(strings.Repeat("0", groupDigits-len(digits)))
		}
		s.WriteString(digits)
	}
	return s.String()
}

// read returns the number of which text returns s, and whether there is one that is representable.
func read(s string) (whole, bool) {
	digits, negative := strings.CutPrefix(s, "-")
	if !decimal(digits) || negative && digits == "0" {
		return whole{}, false
	}
	a := whole{negative, readDigits(digits)}
	return a, fits(a)
}

// decimal reports whether s has only digits, not too many of them, and no zero at the front but that of 0 itself.
func decimal(s string) bool {
	if s == "" || len(s) > api.MaxDigits || s[0] == '0' && len(s) > 1 {
		return false
	}
	for i := range len(s) {
		if s[i] < '0' || s[i] > '9' {
			return false
		}
	}
	return true
}

func readDigits(s string) natural {
	var a natural
	for s != "" {
		n := (len(s)-1)%groupDigits + 1
		a = a.times(natural{groupBase}).plus(readGroup(s[:n]))
		s = s[n:]
	}
	return a
}

func readGroup(s string) natural {
	n := uint64(0)
	for i := range len(s) {
		n = 10*n + uint64(s[i]-'0')
	}
	return naturalOf(n)
}
