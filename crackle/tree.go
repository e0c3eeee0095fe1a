package crackle

import (
	"cmp"
	"slices"

	"canting/api"
	"canting/exact"
)

// Forest returns the spanning forest of a weighting.
func Forest(m Map, weight []int) ([]bool, api.Errno) {
	if !Valid(m) || !m.hasWeights(weight) {
		return nil, api.ErrArg
	}
	g := graphOf(m)
	order := g.all()
	slices.SortStableFunc(order, func(e, f int) int { return cmp.Compare(weight[e], weight[f]) })
	taken, joined := make([]bool, len(weight)), g.apart()
	for _, e := range order {
		taken[e] = joined.join(g.ends(e))
	}
	return taken, api.OK
}

// Trees returns the number of spanning trees.
func Trees(m Map) (int, api.Errno) {
	_, _, _, parts, r := Euler(m)
	if r != api.OK {
		return 0, r
	}
	if parts != 1 {
		return 0, api.ErrState
	}
	g := graphOf(m)
	var rows [][]api.Int
	for _, balance := range g.balances(g.ones())[1:] {
		var row []api.Int
		for _, x := range balance[1:] {
			row = append(row, exact.FromInt(x))
		}
		rows = append(rows, row)
	}
	return exact.ToInt(determinant(rows))
}

// determinant changes the matrix. It needs one all of whose upper left squares have determinants above zero, as those of one part without a vertex have. All elements on the way are determinants of parts of the matrix, so that they stay short and each division is without a rest (Bareiss' elimination).
func determinant(rows [][]api.Int) api.Int {
	last := exact.FromInt(1)
	for k, pivot := range rows {
		for _, row := range rows[k+1:] {
			factor := row[k]
			for j := k + 1; j < len(row); j++ {
				row[j] = crossed(row[j], pivot[k], pivot[j], factor, last)
			}
		}
		last = pivot[k]
	}
	return last
}

// crossed returns (a·b - c·d) / divisor.
func crossed(a, b, c, d, divisor api.Int) api.Int {
	first, _ := exact.Mul(a, b)
	second, _ := exact.Mul(c, d)
	difference, _ := exact.Sub(first, second)
	quotient, _, _ := exact.Div(difference, divisor)
	return quotient
}
