// Package exact is layer 1: arithmetic on whole numbers of up to 8192 bits and on fractions of these, and linear algebra over such fractions, all without rounding. See shared/doc/01-exact.md.
package exact

import (
	"math"

	"canting/api"
)

// Valid reports whether a is a whole number in its only form.
func Valid(a api.Int) bool {
	n := len(a.Words)
	if n == 0 {
		return !a.Neg
	}
	return n <= api.MaxWords && a.Words[n-1] != 0
}

func allValid(l ...api.Int) bool {
	for _, a := range l {
		if !Valid(a) {
			return false
		}
	}
	return true
}

// FromInt returns the Int of an int.
func FromInt(n int) api.Int {
	return intOf(small(n))
}

// ToInt returns the int of an Int.
func ToInt(a api.Int) (int, api.Errno) {
	if !allValid(a) {
		return 0, api.ErrArg
	}
	w := wholeOf(a)
	if w.compare(small(math.MinInt)) < 0 || w.compare(small(math.MaxInt)) > 0 {
		return 0, api.ErrRange
	}
	n := int(w.size.low())
	if a.Neg {
		n = -n
	}
	return n, api.OK
}

// Cmp compares: -1 if a is below b, 0 if they are the same, 1 if a is above b.
func Cmp(a, b api.Int) (int, api.Errno) {
	if !allValid(a, b) {
		return 0, api.ErrArg
	}
	return wholeOf(a).compare(wholeOf(b)), api.OK
}

func combine(a, b api.Int, operation func(a, b whole) whole) (api.Int, api.Errno) {
	if !allValid(a, b) {
		return api.Int{}, api.ErrArg
	}
	return fitInt(operation(wholeOf(a), wholeOf(b)))
}

// Add returns the sum.
func Add(a, b api.Int) (api.Int, api.Errno) {
	return combine(a, b, whole.plus)
}

// Sub returns the difference.
func Sub(a, b api.Int) (api.Int, api.Errno) {
	return combine(a, b, whole.minus)
}

// Mul returns the product.
func Mul(a, b api.Int) (api.Int, api.Errno) {
	return combine(a, b, whole.times)
}

// Div returns the quotient and the rest, which is from 0 to the absolute value of b less 1.
func Div(a, b api.Int) (q, r api.Int, e api.Errno) {
	if !allValid(a, b) {
		return api.Int{}, api.Int{}, api.ErrArg
	}
	divisor := wholeOf(b)
	if divisor.sign() == 0 {
		return api.Int{}, api.Int{}, api.ErrZero
	}
	quotient, rest := wholeOf(a).divide(divisor)
	return intOf(quotient), intOf(rest), api.OK
}

// Gcd returns the greatest common divisor, of two zeros zero.
func Gcd(a, b api.Int) (api.Int, api.Errno) {
	return combine(a, b, whole.gcd)
}

// Ext returns the greatest common divisor g, and x and y for which a·x + b·y is g: the least such x that is at least zero, or, if b is zero, the sign of a.
func Ext(a, b api.Int) (g, x, y api.Int, e api.Errno) {
	if !allValid(a, b) {
		return api.Int{}, api.Int{}, api.Int{}, api.ErrArg
	}
	left, right := wholeOf(a), wholeOf(b)
	if right.sign() == 0 {
		return intOf(left.absolute()), FromInt(left.sign()), api.Int{}, api.OK
	}
	divisor, factor := left.extended(right)
	other := divisor.minus(left.times(factor)).over(right)
	return intOf(divisor), intOf(factor), intOf(other), api.OK
}

const maxExponent = 10_000

// Pow returns a to the n-th.
func Pow(a api.Int, n int) (api.Int, api.Errno) {
	if !allValid(a) || n < 0 || n > maxExponent {
		return api.Int{}, api.ErrArg
	}
	base := wholeOf(a)
	// The power has more than (bits - 1)·n bits: too many are not worth the work.
	if (base.size.bits()-1)*n >= api.MaxWords*wordBits {
		return api.Int{}, api.ErrRange
	}
	return fitInt(signed(base.negative && n%2 == 1, base.size.power(n)))
}

const maxRoot = 64

// Root returns the greatest number whose k-th power is not above a.
func Root(a api.Int, k int) (api.Int, api.Errno) {
	if !allValid(a) || a.Neg || k < 1 || k > maxRoot {
		return api.Int{}, api.ErrArg
	}
	return intOf(whole{false, wholeOf(a).size.root(k)}), api.OK
}

// Bits returns the least n for which the absolute value is below 2^n.
func Bits(a api.Int) (int, api.Errno) {
	if !allValid(a) {
		return 0, api.ErrArg
	}
	return wholeOf(a).size.bits(), api.OK
}
