package recipe

import (
	"slices"

	"canting/api"
	"canting/exact"
)

const (
	// maxAmount is how large the elements of a mixture in whole numbers may be.
	maxAmount = 6
	// maxWholeColumns is how many columns a program may have for such a mixture.
	maxWholeColumns = 5
)

// Whole returns the first cheapest mixture in whole numbers up to most.
func Whole(p Program, most int) ([]int, api.Errno) {
	if !isProgram(p) || !isBetween(most, 0, maxAmount) {
		return nil, api.ErrArg
	}
	if len(p.C) > maxWholeColumns {
		return nil, api.ErrSize
	}
	columns, left := inWholeNumbers(p)
	t := trial{columns: columns, most: most}
	t.choose(nil, left)
	if t.best == nil {
		return nil, api.ErrNone
	}
	return t.best, api.OK
}

// inWholeNumbers multiplies each row, and the costs, by a number that makes them whole. It returns the columns, each with its cost at the end, and what is left to make before anything is taken, with a zero there.
func inWholeNumbers(p Program) (columns [][]api.Int, left []api.Int) {
	columns = make([][]api.Int, len(p.C))
	add := func(row []api.Rat, target api.Rat) {
		l := withoutDenominators(append(slices.Clone(row), target))
		for j := range columns {
			columns[j] = append(columns[j], l[j])
		}
		left = append(left, l[len(row)])
	}
	for i, row := range p.A {
		add(row, p.B[i])
	}
	add(p.C, number(0))
	return columns, left
}

// withoutDenominators multiplies small Rats by the product of their denominators.
func withoutDenominators(l []api.Rat) []api.Int {
	product := exact.FromInt(1)
	for _, f := range l {
		product, _ = exact.Mul(product, f.Den)
	}
	var out []api.Int
	for _, f := range l {
		factor, _, _ := exact.Div(product, f.Den)
		multiple, _ := exact.Mul(f.Num, factor)
		out = append(out, multiple)
	}
	return out
}

// trial tries all mixtures in whole numbers, in order.
type trial struct {
	columns [][]api.Int
	most    int
	best    []int
	left    api.Int // what the best one leaves of a cost of zero
}

// choose tries all mixtures that begin with x. It is given what x leaves of the target, and, at the end, of a cost of zero.
func (t *trial) choose(x []int, left []api.Int) {
	if len(x) == len(t.columns) {
		t.compare(x, left)
		return
	}
	for amount := range t.most + 1 {
		t.choose(append(x, amount), left)
		left = minus(left, t.columns[len(x)])
	}
}

// compare keeps x if it is a mixture that costs less than the best one.
func (t *trial) compare(x []int, left []api.Int) {
	last := len(left) - 1
	isLeft := func(a api.Int) bool { return len(a.Words) > 0 }
	if slices.ContainsFunc(left[:last], isLeft) {
		return
	}
	order, _ := exact.Cmp(left[last], t.left)
	if t.best == nil || order > 0 {
		t.best, t.left = slices.Clone(x), left[last]
	}
}

// minus subtracts element by element.
func minus(u, v []api.Int) []api.Int {
	var out []api.Int
	for i := range u {
		difference, _ := exact.Sub(u[i], v[i])
		out = append(out, difference)
	}
	return out
}
