package exact

import "math/bits"

// step is a matrix that makes a pair of numbers shorter and keeps its common divisors: from x, y to a·x + b·y, c·x + d·y.
type step struct{ a, b, c, d whole }

func (s step) apply(x, y whole) (whole, whole) {
	return s.a.times(x).plus(s.b.times(y)), s.c.times(x).plus(s.d.times(y))
}

// shorten returns a step for x and y, where y is above zero and x is at least zero. One of Lehmer's steps does many steps of Euclid with single words, which is much faster for long numbers.
func shorten(x, y whole) step {
	if len(y.size) > 2 && x.size.compare(y.size) >= 0 {
		if s, ok := lehmer(x.size, y.size); ok {
			return s
		}
	}
	return step{b: small(1), c: small(1), d: x.over(y).opposite()}
}

// lehmer does Euclid's steps with the top 64 bits of x and y, as long as the quotients are certain to be those of x and y (Collins' condition); it reports whether there was one. x has at least 3 words and is at least y.
func lehmer(x, y natural) (step, bool) {
	n := len(x)
	shift := bits.LeadingZeros32(x[n-1])
	p, q := x.top(n, shift), y.top(n, shift)
	// From the second round on, the step is to a·x - b·y and d·y - c·x, or, if flipped, to the opposites of these. It stays a round behind: e and f, the next c and d, are not certain yet.
	a, c, e := uint64(0), uint64(1), uint64(0)
	b, d, f := uint64(0), uint64(0), uint64(1)
	flipped := true
	for q >= f && p-q >= d+f {
		quotient := p / q
		p, q = q, p%q
		a, c, e = c, e, c+quotient*e
		b, d, f = d, f, d+quotient*f
		flipped = !flipped
	}
	return step{
		a: signed(flipped, naturalOf(a)),
		b: signed(!flipped, naturalOf(b)),
		c: signed(!flipped, naturalOf(c)),
		d: signed(flipped, naturalOf(d)),
	}, b != 0
}

// top returns the 64 bits from word n - 1 down, when all is shifted up by less than 32 bits.
func (a natural) top(n, shift int) uint64 {
	high := uint64(a.word(n-1))<<wordBits | uint64(a.word(n-2))
	return high<<shift | uint64(a.word(n-3))>>(wordBits-shift)
}

// gcd returns the greatest common divisor, of two zeros zero.
func (a whole) gcd(b whole) whole {
	x, y := a.absolute(), b.absolute()
	for y.sign() != 0 {
		if len(x.size) <= 2 && len(y.size) <= 2 {
			return whole{false, naturalOf(wordGcd(x.size.low(), y.size.low()))}
		}
		x, y = shorten(x, y).apply(x, y)
	}
	return x
}

func wordGcd(x, y uint64) uint64 {
	for y != 0 {
		x, y = y, x%y
	}
	return x
}

// extended returns the greatest common divisor g of a and b, which is not zero, and the only x from 0 to |b|/g less 1 for which b divides g - a·x.
func (a whole) extended(b whole) (g, x whole) {
	g, rest := a.absolute(), b.absolute()
	// factor times |a| is g, and other times |a| is rest, but for multiples of b.
	factor, other := small(1), small(0)
	for rest.sign() != 0 {
		s := shorten(g, rest)
		g, rest = s.apply(g, rest)
		factor, other = s.apply(factor, other)
	}
	if a.negative {
		factor = factor.opposite()
	}
	_, x = factor.divide(b.over(g))
	return g, x
}
