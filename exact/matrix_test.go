package exact_test

import (
	"fmt"
	"math"
	"math/big"
	"math/rand"
	"slices"
	"testing"

	"canting/api"
	"canting/exact"
)

// bigForm makes the reduced row echelon form step by step with fractions; it also returns the pivots and the determinant of a square matrix.
func bigForm(m [][]api.Rat) (form [][]*big.Rat, pivots []int, det *big.Rat) {
	for _, r := range m {
		var row []*big.Rat
		for _, f := range r {
			row = append(row, toBigRat(f))
		}
		form = append(form, row)
	}
	det = big.NewRat(1, 1)
	for j := range m[0] {
		place := len(pivots)
		i := place
		for i < len(form) && form[i][j].Sign() == 0 {
			i++
		}
		if i >= len(form) {
			det.SetInt64(0)
			continue
		}
		if i != place {
			form[place], form[i] = form[i], form[place]
			det.Neg(det)
		}
		det.Mul(det, form[place][j])
		bigClear(form, place, j)
		pivots = append(pivots, j)
	}
	return form, pivots, det
}

func bigClear(form [][]*big.Rat, place, j int) {
	inverse := new(big.Rat).Inv(form[place][j])
	for k := range form[place] {
		form[place][k] = new(big.Rat).Mul(form[place][k], inverse)
	}
	for i := range form {
		if factor := form[i][j]; i != place && factor.Sign() != 0 {
			for k := range form[i] {
				form[i][k] = new(big.Rat).Sub(form[i][k], new(big.Rat).Mul(factor, form[place][k]))
			}
		}
	}
}

// randomMatrix returns a matrix of h rows: of small or long elements, often with rows that depend on others.
func randomMatrix(r *rand.Rand, h, w int) [][]api.Rat {
	kind := r.Intn(4)
	var m [][]api.Rat
	for i := range h {
		var row []api.Rat
		for range w {
			row = append(row, randomElement(r, kind))
		}
		if i > 0 && kind < 3 && r.Intn(3) == 0 {
			row = multiple(m[r.Intn(i)], int64(r.Intn(5)-2))
		}
		m = append(m, row)
	}
	if r.Intn(3) == 0 {
		j := r.Intn(w)
		for i := range m {
			m[i][j] = rational("0")
		}
	}
	return m
}

func randomElement(r *rand.Rand, kind int) api.Rat {
	switch kind {
	case 0:
		return fromBigRat(big.NewRat(int64(r.Intn(3)-1), 1))
	case 1:
		return fromBigRat(big.NewRat(int64(r.Intn(9)-4), 1))
	case 2:
		return fromBigRat(big.NewRat(int64(r.Intn(21)-10), int64(1+r.Intn(12))))
	}
	num := new(big.Int).SetUint64(r.Uint64() | 1<<63)
	if r.Intn(2) == 0 {
		num.Neg(num)
	}
	return fromBigRat(new(big.Rat).SetFrac(num, new(big.Int).SetUint64(r.Uint64()|1<<63)))
}

func multiple(row []api.Rat, n int64) []api.Rat {
	var out []api.Rat
	for _, f := range row {
		out = append(out, fromBigRat(new(big.Rat).Mul(toBigRat(f), big.NewRat(n, 1))))
	}
	return out
}

// eachMatrix calls check with random matrices of all sizes.
func eachMatrix(check func(r *rand.Rand, m [][]api.Rat)) {
	r := rand.New(rand.NewSource(5))
	for h := 1; h <= api.MaxSide; h++ {
		for w := 1; w <= api.MaxSide; w++ {
			for range 8 {
				check(r, randomMatrix(r, h, w))
			}
		}
	}
}

// badMatrices returns matrices that are not valid.
func badMatrices() [][][]api.Rat {
	one := rational("1")
	full := func(h, w int) [][]api.Rat {
		var m [][]api.Rat
		for range h {
			m = append(m, slices.Repeat([]api.Rat{one}, w))
		}
		return m
	}
	withLast := func(f api.Rat) [][]api.Rat {
		m := matrix("1 2 3; 4 5 6; 7 8 10")
		m[2][2] = f
		return m
	}
	out := [][][]api.Rat{nil, {}, {nil}, {{}}, {{}, {}}, full(9, 1), full(1, 9), full(9, 9), full(100_000, 2), full(2, 100_000),
		{{one}, nil}, {nil, {one}}, {{one, one}, {one}}, {{one}, {one, one}}, {{one, one}, {one, one}, {}}, append(full(7, 2), full(1, 3)...),
		withLast(rational("18446744073709551616")), withLast(rational("-18446744073709551616")), withLast(rational("1/18446744073709551616"))}
	for _, f := range badRats() {
		out = append(out, withLast(f), [][]api.Rat{{f}}, [][]api.Rat{{f, one}, {one, one}})
	}
	return out
}

func TestP1_9_Rref(t *testing.T) {
	for _, x := range []struct {
		m, form string
		pivots  []int
	}{
		{"2 4 2; 1 2 2", "1 2 0; 0 0 1", []int{0, 2}},
		{"0", "0", nil},
		{"-5", "1", []int{0}},
		{"0 0; 0 0", "0 0; 0 0", nil},
		{"0 0 3", "0 0 1", []int{2}},
		{"0; 0; -1/2", "1; 0; 0", []int{0}},
		{"0 1; 1 0", "1 0; 0 1", []int{0, 1}},
		{"1 2; 2 4; 3 6", "1 2; 0 0; 0 0", []int{0}},
		{"1/2 1/3; 1/4 1/5", "1 0; 0 1", []int{0, 1}},
		{"0 2 4 6; 0 1 2 4", "0 1 2 0; 0 0 0 1", []int{1, 3}},
		{"18446744073709551615 1/18446744073709551615", "1 1/340282366920938463426481119284349108225", []int{0}},
	} {
		form, pivots, e := exact.Rref(matrix(x.m))
		if !sameRows(form, matrix(x.form)) || !slices.Equal(pivots, x.pivots) || e != api.OK {
			t.Errorf("Rref(%s) = %v, %v, %d", x.m, form, pivots, e)
		}
	}
	eachMatrix(func(_ *rand.Rand, m [][]api.Rat) {
		form, pivots, e := exact.Rref(m)
		want, wantPivots, _ := bigForm(m)
		if len(form) != len(want) || !slices.Equal(pivots, wantPivots) || e != api.OK {
			t.Fatalf("Rref(%v) = %v, %v, %d", m, form, pivots, e)
		}
		for i := range want {
			for j := range want[i] {
				wantRat(t, fmt.Sprint("element ", i, j), form[i][j], e, want[i][j])
			}
		}
	})
}

func TestP1_9_Arguments(t *testing.T) {
	for i, m := range badMatrices() {
		if form, pivots, e := exact.Rref(m); len(form) != 0 || len(pivots) != 0 || e != api.ErrArg {
			t.Errorf("bad matrix %d: Rref = %v, %v, %d", i, form, pivots, e)
		}
	}
}

func TestP1_10_Det(t *testing.T) {
	for m, want := range map[string]string{
		"1 2; 3 4": "-2", "5": "5", "0": "0", "-1/3": "-1/3", "0 1; 1 0": "-1", "0 0 1; 1 0 0; 0 1 0": "1", "0 0 1; 0 1 0; 1 0 0": "-1",
		"1 2; 2 4": "0", "1/2 1/3; 1/4 1/5": "1/60", "2 0 0; 0 3 0; 0 0 4": "24", "1 2 3; 4 5 6; 7 8 9": "0", "0 5; 0 7": "0", "-1 0; 0 1": "-1",
	} {
		if d, e := exact.Det(matrix(m)); !sameRat(d, rational(want)) || e != api.OK {
			t.Errorf("Det(%s) = %v, %d", m, d, e)
		}
	}
	eachMatrix(func(_ *rand.Rand, m [][]api.Rat) {
		d, e := exact.Det(m)
		if len(m) != len(m[0]) {
			if !zeroRat(d) || e != api.ErrArg {
				t.Errorf("Det of %d by %d = %v, %d", len(m), len(m[0]), d, e)
			}
			return
		}
		_, _, want := bigForm(m)
		wantRat(t, fmt.Sprint("Det ", m), d, e, want)
	})
}

func TestP1_10_Inverse(t *testing.T) {
	for m, want := range map[string]string{
		"1 2; 3 4": "-2 1; 3/2 -1/2", "5": "1/5", "-2/3": "-3/2", "0 1; 1 0": "0 1; 1 0", "1 0; 0 1": "1 0; 0 1", "0 2; -3 0": "0 -1/3; 1/2 0",
	} {
		if i, e := exact.Inverse(matrix(m)); !sameRows(i, matrix(want)) || e != api.OK {
			t.Errorf("Inverse(%s) = %v, %d", m, i, e)
		}
	}
	for _, m := range []string{"0", "1 2; 2 4", "0 0; 0 0", "1 2 3; 4 5 6; 7 8 9", "0 1; 0 2", "1/2 1/3; 3/2 1"} {
		if i, e := exact.Inverse(matrix(m)); len(i) != 0 || e != api.ErrNone {
			t.Errorf("Inverse(%s) = %v, %d", m, i, e)
		}
	}
	eachMatrix(func(_ *rand.Rand, m [][]api.Rat) {
		i, e := exact.Inverse(m)
		if len(m) != len(m[0]) {
			if len(i) != 0 || e != api.ErrArg {
				t.Errorf("Inverse of %d by %d = %v, %d", len(m), len(m[0]), i, e)
			}
			return
		}
		_, pivots, _ := bigForm(m)
		if len(pivots) < len(m) {
			if len(i) != 0 || e != api.ErrNone {
				t.Errorf("Inverse(%v) = %v, %d", m, i, e)
			}
			return
		}
		checkInverse(t, m, i, e)
	})
}

func checkInverse(t *testing.T, m, inverse [][]api.Rat, e api.Errno) {
	t.Helper()
	if e != api.OK || len(inverse) != len(m) || !allRatsValid(inverse...) {
		t.Fatalf("Inverse(%v) = %v, %d", m, inverse, e)
	}
	for _, p := range [][][]*big.Rat{bigProduct(m, inverse), bigProduct(inverse, m)} {
		for i := range p {
			for j := range p {
				if want := int64(boolInt(i == j)); p[i][j].Cmp(big.NewRat(want, 1)) != 0 {
					t.Errorf("Inverse(%v): element %d %d of the product is %v", m, i, j, p[i][j])
				}
			}
		}
	}
}

func boolInt(b bool) int {
	if b {
		return 1
	}
	return 0
}

func bigProduct(m, n [][]api.Rat) [][]*big.Rat {
	var out [][]*big.Rat
	for i := range m {
		var row []*big.Rat
		for j := range n[0] {
			sum := new(big.Rat)
			for k := range n {
				sum.Add(sum, new(big.Rat).Mul(toBigRat(m[i][k]), toBigRat(n[k][j])))
			}
			row = append(row, sum)
		}
		out = append(out, row)
	}
	return out
}

func allRatsValid(rows ...[]api.Rat) bool {
	for _, row := range rows {
		for _, f := range row {
			if !exact.ValidRat(f) {
				return false
			}
		}
	}
	return true
}

func TestP1_10_Arguments(t *testing.T) {
	bad := append(badMatrices(), matrix("1 2"), matrix("1; 2"), matrix("1 2 3; 4 5 6"), matrix("0 0; 0 0; 0 0"))
	for i, m := range bad {
		if d, e := exact.Det(m); !zeroRat(d) || e != api.ErrArg {
			t.Errorf("bad matrix %d: Det = %v, %d", i, d, e)
		}
		if n, e := exact.Inverse(m); len(n) != 0 || e != api.ErrArg {
			t.Errorf("bad matrix %d: Inverse = %v, %d", i, n, e)
		}
	}
}

func TestP1_11_Solve(t *testing.T) {
	for _, x := range [][3]string{
		{"2 4 2; 1 2 2", "2 3", "-1 0 2"},
		{"1 2; 3 4", "5 6", "-4 9/2"},
		{"2", "3", "3/2"},
		{"0 0; 0 0", "0 0", "0 0"},
		{"0 2", "3", "0 3/2"},
		{"1 1 1", "-7/3", "-7/3 0 0"},
		{"1; 2; 3", "2 4 6", "2"},
		{"0 1; 1 0", "1/2 1/3", "1/3 1/2"},
	} {
		if s, e := exact.Solve(matrix(x[0]), row(x[1])); !sameRow(s, row(x[2])) || e != api.OK {
			t.Errorf("Solve(%s, %s) = %v, %d", x[0], x[1], s, e)
		}
	}
	for _, x := range [][2]string{{"0", "1"}, {"1 2; 2 4", "1 3"}, {"0 0; 0 0", "0 1"}, {"1; 2; 3", "2 4 7"}, {"1 1; 0 0; 1 2", "1 1/9 2"}, {"1 0; 0 1; 1 1", "1 1 3"}} {
		if s, e := exact.Solve(matrix(x[0]), row(x[1])); len(s) != 0 || e != api.ErrNone {
			t.Errorf("Solve(%s, %s) = %v, %d", x[0], x[1], s, e)
		}
	}
	solved, impossible := 0, 0
	eachMatrix(func(r *rand.Rand, m [][]api.Rat) {
		var b []api.Rat
		kind := r.Intn(4)
		for range m {
			b = append(b, randomElement(r, kind))
		}
		if r.Intn(2) == 0 {
			b = column(m, r.Intn(len(m[0])))
		}
		checkSolve(t, m, b, &solved, &impossible)
	})
	if solved < 100 || impossible < 100 {
		t.Errorf("%d are solved, %d have no solution", solved, impossible)
	}
}

func column(m [][]api.Rat, j int) []api.Rat {
	var out []api.Rat
	for i := range m {
		out = append(out, m[i][j])
	}
	return out
}

func checkSolve(t *testing.T, m [][]api.Rat, b []api.Rat, solved, impossible *int) {
	t.Helper()
	n := len(m[0])
	var beside [][]api.Rat
	for i := range m {
		beside = append(beside, append(slices.Clone(m[i]), b[i]))
	}
	form, pivots, _ := bigForm(beside)
	x, e := exact.Solve(m, b)
	if slices.Contains(pivots, n) {
		*impossible++
		if len(x) != 0 || e != api.ErrNone {
			t.Errorf("Solve(%v, %v) = %v, %d", m, b, x, e)
		}
		return
	}
	*solved++
	if len(x) != n || e != api.OK {
		t.Fatalf("Solve(%v, %v) = %v, %d", m, b, x, e)
	}
	for j := range n {
		want := new(big.Rat)
		if i := slices.Index(pivots, j); i >= 0 {
			want = form[i][n]
		}
		wantRat(t, fmt.Sprint("Solve ", m, b, j), x[j], e, want)
	}
}

func TestP1_11_SolveArguments(t *testing.T) {
	for i, m := range badMatrices() {
		for _, b := range [][]api.Rat{nil, row("1"), row("1 2"), row("1 2 3")} {
			if x, e := exact.Solve(m, b); len(x) != 0 || e != api.ErrArg {
				t.Errorf("bad matrix %d: Solve = %v, %d", i, x, e)
			}
		}
	}
	m := matrix("1 2 3; 2 4 6")
	bad := [][]api.Rat{nil, {}, row("1"), row("1 2 3"), slices.Repeat(row("1"), 9), slices.Repeat(row("1"), 100_000),
		row("18446744073709551616 1"), row("1 -18446744073709551616"), row("1 1/18446744073709551616")}
	for _, f := range badRats() {
		bad = append(bad, []api.Rat{f, rational("1")}, []api.Rat{rational("1"), f})
	}
	for i, b := range bad {
		if x, e := exact.Solve(m, b); len(x) != 0 || e != api.ErrArg {
			t.Errorf("bad row %d: Solve = %v, %d", i, x, e)
		}
	}
}

func TestP1_11_Kernel(t *testing.T) {
	for m, want := range map[string]string{
		"2 4 2; 1 2 2": "-2 1 0", "0 0; 0 0": "1 0; 0 1", "0 1 2; 0 0 0": "1 0 0; 0 -2 1", "1 1/2 -3": "-1/2 1 0; 3 0 1", "1 0 5; 0 1 6": "-5 -6 1",
	} {
		if k, e := exact.Kernel(matrix(m)); !sameRows(k, matrix(want)) || e != api.OK {
			t.Errorf("Kernel(%s) = %v, %d", m, k, e)
		}
	}
	for _, m := range []string{"1", "1 2; 3 4", "1; 2; 3"} {
		if k, e := exact.Kernel(matrix(m)); len(k) != 0 || e != api.OK {
			t.Errorf("Kernel(%s) = %v, %d", m, k, e)
		}
	}
	eachMatrix(func(_ *rand.Rand, m [][]api.Rat) {
		form, pivots, _ := bigForm(m)
		kernel, e := exact.Kernel(m)
		if len(kernel) != len(m[0])-len(pivots) || e != api.OK {
			t.Fatalf("Kernel(%v) = %v, %d", m, kernel, e)
		}
		next := 0
		for j := range m[0] {
			if slices.Contains(pivots, j) {
				continue
			}
			for k, f := range kernel[next] {
				want := big.NewRat(int64(boolInt(k == j)), 1)
				if i := slices.Index(pivots, k); i >= 0 {
					want.Neg(form[i][j])
				}
				wantRat(t, fmt.Sprint("Kernel ", m, j, k), f, e, want)
			}
			next++
		}
	})
	for i, m := range badMatrices() {
		if k, e := exact.Kernel(m); len(k) != 0 || e != api.ErrArg {
			t.Errorf("bad matrix %d: Kernel = %v, %d", i, k, e)
		}
	}
}

// longMatrix is of the largest size, with elements as long as they may be and denominators that have little in common.
func longMatrix() [][]api.Rat {
	next := uint64(math.MaxUint64)
	var m [][]api.Rat
	for range api.MaxSide {
		var row []api.Rat
		for range api.MaxSide {
			num, den := new(big.Int).SetUint64(next), new(big.Int).SetUint64(next-1)
			row = append(row, fromBigRat(new(big.Rat).SetFrac(num, den)))
			next -= 1_000_003
		}
		m = append(m, row)
	}
	return m
}

func TestP1_11_Longest(t *testing.T) {
	m := longMatrix()
	_, _, want := bigForm(m)
	d, e := exact.Det(m)
	wantRat(t, "Det", d, e, want)
	inverse, e := exact.Inverse(m)
	checkInverse(t, m, inverse, e)
	solved, impossible := 0, 0
	checkSolve(t, m, column(longMatrix(), 5), &solved, &impossible)
	checkSolve(t, m, randomMatrix(rand.New(rand.NewSource(6)), 1, 8)[0], &solved, &impossible)
	if kernel, e := exact.Kernel(m[:7]); len(kernel) != 1 || e != api.OK || !allRatsValid(kernel...) {
		t.Errorf("Kernel: %d rows, error %d", len(kernel), e)
	}
}
