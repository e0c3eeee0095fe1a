package recipe

import (
	"canting/api"
	"canting/exact"
)

// maxProofWords is how many words the parts of an element of a proof may have.
const maxProofWords = 24

// canBeProof reports whether f may be an element of a proof.
func canBeProof(f api.Rat) bool {
	return len(f.Num.Words) <= maxProofWords && len(f.Den.Words) <= maxProofWords && exact.ValidRat(f)
}

// Check reports whether a is a proof for a program.
func Check(p Program, a Answer) (bool, api.Errno) {
	if !isProgram(p) {
		return false, api.ErrArg
	}
	for _, holds := range p.conditions(a) {
		if !holds() {
			return false, api.OK
		}
	}
	return true, api.OK
}

// conditions returns what must hold if an answer is a proof; each condition needs those before it.
func (p Program) conditions(a Answer) []func() bool {
	m, n := len(p.B), len(p.C)
	sizes := func(x, y, ray int) func() bool {
		return func() bool { return haveSize(x, a.X) && haveSize(y, a.Y) && haveSize(ray, a.Ray) }
	}
	elements := func() bool { return areAll(canBeProof, a.X, a.Y, a.Ray, []api.Rat{a.Value}) }
	noValue := func() bool { return sign(a.Value) == 0 }
	mixture := func() bool { return p.makes(a.X, p.B) }
	switch a.Kind {
	case optimal:
		prices := func() bool { return p.staysWithin(a.Y, p.C) }
		value := func() bool {
			return compare(dot(p.C, a.X), a.Value) == 0 && compare(dot(p.B, a.Y), a.Value) == 0
		}
		return []func() bool{sizes(n, m, 0), elements, mixture, prices, value}
	case impossible:
		prices := func() bool { return p.staysWithin(a.Y, numbers(n, 0)) }
		gain := func() bool { return sign(dot(p.B, a.Y)) > 0 }
		return []func() bool{sizes(0, m, 0), elements, noValue, prices, gain}
	case unbounded:
		direction := func() bool { return p.makes(a.Ray, numbers(m, 0)) }
		falls := func() bool { return isNegative(dot(p.C, a.Ray)) }
		return []func() bool{sizes(n, 0, n), elements, noValue, mixture, direction, falls}
	}
	return []func() bool{func() bool { return false }}
}

// makes reports whether no element of x is below zero and A·x is the target.
func (p Program) makes(x, target []api.Rat) bool {
	for i, row := range p.A {
		if compare(dot(row, x), target[i]) != 0 {
			return false
		}
	}
	return areAll(func(f api.Rat) bool { return !isNegative(f) }, x)
}

// staysWithin reports whether at the prices y of the rows no column is worth more than its limit.
func (p Program) staysWithin(y, limits []api.Rat) bool {
	for j, column := range transposed(p.A) {
		if compare(dot(column, y), limits[j]) > 0 {
			return false
		}
	}
	return true
}
