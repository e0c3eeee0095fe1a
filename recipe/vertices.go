package recipe

import (
	"slices"

	"canting/api"
	"canting/exact"
)

// Vertices returns all basic mixtures, in order.
func Vertices(p Program) ([][]api.Rat, api.Errno) {
	if !isProgram(p) {
		return nil, api.ErrArg
	}
	var out [][]api.Rat
	for set := range 1 << len(p.C) {
		if x, ok := p.basicMixture(set); ok {
			out = append(out, x)
		}
	}
	slices.SortFunc(out, func(x, y []api.Rat) int { return slices.CompareFunc(x, y, compare) })
	return out, api.OK
}

// basicMixture returns the basic mixture whose elements are above zero at the columns of a set, given as set bits, and zero elsewhere, and whether there is one.
func (p Program) basicMixture(set int) (x []api.Rat, ok bool) {
	if set == 0 {
		isZero := func(f api.Rat) bool { return sign(f) == 0 }
		return numbers(len(p.C), 0), areAll(isZero, p.B)
	}
	var places []int
	var chosen [][]api.Rat
	for j, column := range transposed(p.A) {
		if set>>j&1 == 1 {
			places = append(places, j)
			chosen = append(chosen, column)
		}
	}
	amounts, e := exact.Solve(transposed(chosen), p.B)
	// A column that depends on those before it has a zero here.
	isAboveZero := func(f api.Rat) bool { return sign(f) > 0 }
	if e != api.OK || !areAll(isAboveZero, amounts) {
		return nil, false
	}
	x = numbers(len(p.C), 0)
	for i, j := range places {
		x[j] = amounts[i]
	}
	return x, true
}
