package exact

import "canting/api"

// fraction is a fraction in lowest terms, whose denominator is above zero.
type fraction struct{ num, den whole }

// newFraction returns num/den; den is not zero.
func newFraction(num, den whole) fraction {
	common := num.gcd(den)
	if den.negative {
		common = common.opposite()
	}
	return fraction{num.over(common), den.over(common)}
}

func fractionOf(f api.Rat) fraction {
	return fraction{wholeOf(f.Num), wholeOf(f.Den)}
}

func ratOf(f fraction) api.Rat {
	return api.Rat{Num: intOf(f.num), Den: intOf(f.den)}
}

func (f fraction) lowest() bool {
	return f.den.sign() > 0 && f.num.gcd(f.den).isOne()
}

func (f fraction) compare(g fraction) int {
	return f.num.times(g.den).compare(g.num.times(f.den))
}

func (f fraction) plus(g fraction) fraction {
	return newFraction(f.num.times(g.den).plus(g.num.times(f.den)), f.den.times(g.den))
}

func (f fraction) opposite() fraction {
	return fraction{f.num.opposite(), f.den}
}

func (f fraction) minus(g fraction) fraction {
	return f.plus(g.opposite())
}

func (f fraction) times(g fraction) fraction {
	return newFraction(f.num.times(g.num), f.den.times(g.den))
}

// over needs g not to be zero.
func (f fraction) over(g fraction) fraction {
	return newFraction(f.num.times(g.den), f.den.times(g.num))
}

// ValidRat reports whether f is a fraction in its only form.
func ValidRat(f api.Rat) bool {
	return allValid(f.Num, f.Den) && fractionOf(f).lowest()
}

func allValidRats(l ...api.Rat) bool {
	for _, f := range l {
		if !ValidRat(f) {
			return false
		}
	}
	return true
}

// NewRat returns the fraction of num/den.
func NewRat(num, den api.Int) (api.Rat, api.Errno) {
	if !allValid(num, den) {
		return api.Rat{}, api.ErrArg
	}
	if wholeOf(den).sign() == 0 {
		return api.Rat{}, api.ErrZero
	}
	return ratOf(newFraction(wholeOf(num), wholeOf(den))), api.OK
}

// RatCmp compares: -1 if f is below g, 0 if they are the same, 1 if f is above g.
func RatCmp(f, g api.Rat) (int, api.Errno) {
	if !allValidRats(f, g) {
		return 0, api.ErrArg
	}
	return fractionOf(f).compare(fractionOf(g)), api.OK
}

func combineRats(f, g api.Rat, operation func(f, g fraction) fraction) (api.Rat, api.Errno) {
	if !allValidRats(f, g) {
		return api.Rat{}, api.ErrArg
	}
	result := operation(fractionOf(f), fractionOf(g))
	if !fits(result.num) || !fits(result.den) {
		return api.Rat{}, api.ErrRange
	}
	return ratOf(result), api.OK
}

// RatAdd returns the sum.
func RatAdd(f, g api.Rat) (api.Rat, api.Errno) {
	return combineRats(f, g, fraction.plus)
}

// RatSub returns the difference.
func RatSub(f, g api.Rat) (api.Rat, api.Errno) {
	return combineRats(f, g, fraction.minus)
}

// RatMul returns the product.
func RatMul(f, g api.Rat) (api.Rat, api.Errno) {
	return combineRats(f, g, fraction.times)
}

// RatDiv returns the quotient.
func RatDiv(f, g api.Rat) (api.Rat, api.Errno) {
	if !allValidRats(f, g) {
		return api.Rat{}, api.ErrArg
	}
	if fractionOf(g).num.sign() == 0 {
		return api.Rat{}, api.ErrZero
	}
	return combineRats(f, g, fraction.over)
}

// RatFloor returns the greatest whole number that is not above f.
func RatFloor(f api.Rat) (api.Int, api.Errno) {
	if !allValidRats(f) {
		return api.Int{}, api.ErrArg
	}
	g := fractionOf(f)
	return intOf(g.num.over(g.den)), api.OK
}
