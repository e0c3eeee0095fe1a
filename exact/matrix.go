package exact

import (
	"slices"

	"canting/api"
)

// maxElementWords is how many words the parts of an element of a matrix may have.
const maxElementWords = 2

// validRows reports whether each of the rows has n elements, n is not too large, and all of them may be elements of a matrix.
func validRows(n int, rows ...[]api.Rat) bool {
	if n < 1 || n > api.MaxSide {
		return false
	}
	for _, row := range rows {
		if len(row) != n || slices.ContainsFunc(row, notElement) {
			return false
		}
	}
	return true
}

func notElement(f api.Rat) bool {
	return len(f.Num.Words) > maxElementWords || len(f.Den.Words) > maxElementWords || !ValidRat(f)
}

func validMatrix(m [][]api.Rat) bool {
	return len(m) >= 1 && len(m) <= api.MaxSide && validRows(len(m[0]), m...)
}

func validSquare(m [][]api.Rat) bool {
	return validMatrix(m) && len(m) == len(m[0])
}

// withoutDenominators multiplies a row by the least number that makes all elements whole; it returns that number, too.
func withoutDenominators(row []api.Rat) ([]whole, whole) {
	scale := small(1)
	for _, f := range row {
		den := wholeOf(f.Den)
		scale = scale.times(den.over(scale.gcd(den)))
	}
	var out []whole
	for _, f := range row {
		out = append(out, wholeOf(f.Num).times(scale.over(wholeOf(f.Den))))
	}
	return out, scale
}

// echelon is a matrix that is made of another one by adding and exchanging rows and by multiplying rows: first come rows that have lead in the column of their pivot, where all others have zero, then rows of zeros.
type echelon struct {
	rows   [][]whole
	pivots []int
	lead   whole
	odd    bool // rows were exchanged an odd number of times
}

// reduce makes an echelon of rows of the same length, and changes them; it looks for pivots in the first columns only. All elements are minors of the given rows, so they stay short and each division is without a rest (Bareiss' elimination).
func reduce(rows [][]whole, columns int) *echelon {
	e := &echelon{rows: rows, lead: small(1)}
	for column := range columns {
		if e.findPivot(column) {
			e.clear(column)
		}
	}
	return e
}

// findPivot brings a row with an element in the column that is not zero to the place behind the rows that have pivots, if there is one.
func (e *echelon) findPivot(column int) bool {
	place := len(e.pivots)
	for i := place; i < len(e.rows); i++ {
		if e.rows[i][column].sign() != 0 {
			e.rows[place], e.rows[i] = e.rows[i], e.rows[place]
			e.odd = e.odd != (i != place)
			e.pivots = append(e.pivots, column)
			return true
		}
	}
	return false
}

// clear makes zeros in the column of the newest pivot.
func (e *echelon) clear(column int) {
	pivotRow := e.rows[len(e.pivots)-1]
	lead := pivotRow[column]
	for i, row := range e.rows {
		if i == len(e.pivots)-1 {
			continue
		}
		factor := row[column]
		for j := range row {
			row[j] = row[j].times(lead).minus(pivotRow[j].times(factor)).over(e.lead)
		}
	}
	e.lead = lead
}

// element returns an element of the reduced row echelon form.
func (e *echelon) element(row, column int) fraction {
	return newFraction(e.rows[row][column], e.lead)
}

func zeros(n int) []api.Rat {
	var row []api.Rat
	for range n {
		row = append(row, ratOf(fraction{den: small(1)}))
	}
	return row
}

func reduceMatrix(m [][]api.Rat) *echelon {
	var rows [][]whole
	for _, r := range m {
		row, _ := withoutDenominators(r)
		rows = append(rows, row)
	}
	return reduce(rows, len(m[0]))
}

// Rref returns the reduced row echelon form and its pivots.
func Rref(m [][]api.Rat) ([][]api.Rat, []int, api.Errno) {
	if !validMatrix(m) {
		return nil, nil, api.ErrArg
	}
	e := reduceMatrix(m)
	var form [][]api.Rat
	for i := range m {
		var row []api.Rat
		for j := range m[i] {
			row = append(row, ratOf(e.element(i, j)))
		}
		form = append(form, row)
	}
	return form, e.pivots, api.OK
}

// Det returns the determinant.
func Det(m [][]api.Rat) (api.Rat, api.Errno) {
	if !validSquare(m) {
		return api.Rat{}, api.ErrArg
	}
	var rows [][]whole
	scales := small(1)
	for _, r := range m {
		row, scale := withoutDenominators(r)
		rows = append(rows, row)
		scales = scales.times(scale)
	}
	e := reduce(rows, len(m))
	det := e.lead
	if len(e.pivots) < len(m) {
		det = small(0)
	}
	if e.odd {
		det = det.opposite()
	}
	return ratOf(newFraction(det, scales)), api.OK
}

// Inverse returns the inverse.
func Inverse(m [][]api.Rat) ([][]api.Rat, api.Errno) {
	if !validSquare(m) {
		return nil, api.ErrArg
	}
	n := len(m)
	var rows [][]whole
	for i, r := range m {
		row, scale := withoutDenominators(r)
		beside := make([]whole, n)
		beside[i] = scale
		rows = append(rows, append(row, beside...))
	}
	e := reduce(rows, n)
	if len(e.pivots) < n {
		return nil, api.ErrNone
	}
	var inverse [][]api.Rat
	for i := range n {
		var row []api.Rat
		for j := range n {
			row = append(row, ratOf(e.element(i, n+j)))
		}
		inverse = append(inverse, row)
	}
	return inverse, api.OK
}

// Solve returns the solution of m·x = b that has zeros in all columns that are no pivots.
func Solve(m [][]api.Rat, b []api.Rat) ([]api.Rat, api.Errno) {
	if !validMatrix(m) || !validRows(len(m), b) {
		return nil, api.ErrArg
	}
	n := len(m[0])
	var rows [][]whole
	for i, r := range m {
		row, _ := withoutDenominators(append(slices.Clone(r), b[i]))
		rows = append(rows, row)
	}
	e := reduce(rows, n+1)
	x := zeros(n)
	for i, column := range e.pivots {
		if column == n {
			return nil, api.ErrNone
		}
		x[column] = ratOf(e.element(i, n))
	}
	return x, api.OK
}

// Kernel returns, for each column that is no pivot, what m sends to zero and has 1 there and 0 in the other columns that are no pivots.
func Kernel(m [][]api.Rat) ([][]api.Rat, api.Errno) {
	if !validMatrix(m) {
		return nil, api.ErrArg
	}
	e := reduceMatrix(m)
	n := len(m[0])
	var kernel [][]api.Rat
	for free := range n {
		if slices.Contains(e.pivots, free) {
			continue
		}
		x := zeros(n)
		x[free] = ratOf(fraction{small(1), small(1)})
		for i, column := range e.pivots {
			x[column] = ratOf(e.element(i, free).opposite())
		}
		kernel = append(kernel, x)
	}
	return kernel, api.OK
}
