package exact

import "canting/api"

// whole is a number of any sign and any length; zero is not negative.
type whole struct {
	negative bool
	size     natural
}

func signed(negative bool, size natural) whole {
	return whole{negative && len(size) > 0, size}
}

func small(n int) whole {
	if n < 0 {
		return whole{true, naturalOf(-uint64(n))}
	}
	return whole{false, naturalOf(uint64(n))}
}

func wholeOf(a api.Int) whole {
	return whole{a.Neg, a.Words}
}

// intOf copies, because wholes share their words and results must not.
func intOf(a whole) api.Int {
	if a.sign() == 0 {
		return api.Int{}
	}
	words := make([]uint32, len(a.size))
	copy(words, a.size)
	return api.Int{Neg: a.negative, Words: words}
}

func fits(a whole) bool {
	return len(a.size) <= api.MaxWords
}

func fitInt(a whole) (api.Int, api.Errno) {
	if !fits(a) {
		return api.Int{}, api.ErrRange
	}
	return intOf(a), api.OK
}

func (a whole) sign() int {
	if len(a.size) == 0 {
		return 0
	}
	if a.negative {
		return -1
	}
	return 1
}

func (a whole) isOne() bool {
	return !a.negative && len(a.size) == 1 && a.size[0] == 1
}

func (a whole) opposite() whole {
	return signed(!a.negative, a.size)
}

func (a whole) absolute() whole {
	return whole{false, a.size}
}

func (a whole) compare(b whole) int {
	return a.minus(b).sign()
}

func (a whole) plus(b whole) whole {
	if a.negative == b.negative {
		return whole{a.negative, a.size.plus(b.size)}
	}
	if a.size.compare(b.size) < 0 {
		a, b = b, a
	}
	return signed(a.negative, a.size.minus(b.size))
}

func (a whole) minus(b whole) whole {
	return a.plus(b.opposite())
}

func (a whole) times(b whole) whole {
	return signed(a.negative != b.negative, a.size.times(b.size))
}

// divide returns the quotient and the rest, which is from 0 to the absolute value of b less 1; b is not zero.
func (a whole) divide(b whole) (whole, whole) {
	quotient, rest := a.size.divide(b.size)
	if a.negative && len(rest) > 0 {
		quotient = quotient.plus(natural{1})
		rest = b.size.minus(rest)
	}
	return signed(a.negative != b.negative, quotient), whole{false, rest}
}

// over returns the quotient.
func (a whole) over(b whole) whole {
	quotient, _ := a.divide(b)
	return quotient
}
