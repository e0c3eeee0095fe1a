package exact_test

import (
	"fmt"
	"math"
	"math/rand"
	"slices"
	"testing"

	"canting/api"
	"canting/exact"
)

// must returns a result of a call that has to be possible.
func must[T any](t *testing.T) func(T, api.Errno) T {
	return func(result T, e api.Errno) T {
		t.Helper()
		if e != api.OK {
			t.Fatalf("error %d", e)
		}
		return result
	}
}

// someInts returns numbers of which sums and products of three are representable.
func someInts() []api.Int {
	r := rand.New(rand.NewSource(7))
	out := []api.Int{{}, exact.FromInt(1), exact.FromInt(-1), exact.FromInt(math.MaxInt), exact.FromInt(math.MinInt), exact.FromInt(-1 << 32)}
	for _, n := range []int{1, 2, 5, 30, 80} {
		out = append(out, fromBig(randomBig(r, n)), fromBig(negated(randomBig(r, n))))
	}
	return out
}

func TestP1_12_Ring(t *testing.T) {
	ok := must[api.Int](t)
	for _, a := range someInts() {
		for _, b := range someInts() {
			if !same(ok(exact.Add(a, b)), ok(exact.Add(b, a))) {
				t.Errorf("Add of %v and %v does not commute", a, b)
			}
			if !same(ok(exact.Mul(a, b)), ok(exact.Mul(b, a))) {
				t.Errorf("Mul of %v and %v does not commute", a, b)
			}
			if !same(ok(exact.Sub(ok(exact.Add(a, b)), b)), a) || !same(ok(exact.Add(ok(exact.Sub(a, b)), b)), a) {
				t.Errorf("Sub does not undo Add of %v and %v", a, b)
			}
			for _, c := range someInts() {
				if !same(ok(exact.Add(ok(exact.Add(a, b)), c)), ok(exact.Add(a, ok(exact.Add(b, c))))) {
					t.Errorf("Add of %v, %v, %v does not associate", a, b, c)
				}
				if !same(ok(exact.Mul(ok(exact.Mul(a, b)), c)), ok(exact.Mul(a, ok(exact.Mul(b, c))))) {
					t.Errorf("Mul of %v, %v, %v does not associate", a, b, c)
				}
				if !same(ok(exact.Mul(a, ok(exact.Add(b, c)))), ok(exact.Add(ok(exact.Mul(a, b)), ok(exact.Mul(a, c))))) {
					t.Errorf("Mul of %v does not distribute over Add of %v, %v", a, b, c)
				}
			}
		}
	}
}

func TestP1_13_ThereAndBack(t *testing.T) {
	for _, b := range samples() {
		a := fromBig(b)
		s := must[string](t)(exact.Print(a))
		if c := must[api.Int](t)(exact.Parse(s)); !same(a, c) {
			t.Errorf("Parse(Print(%v)) = %v", a, c)
		}
	}
	for _, b := range ratSamples() {
		f := fromBigRat(b)
		s := must[string](t)(exact.RatPrint(f))
		if g := must[api.Rat](t)(exact.RatParse(s)); !sameRat(f, g) {
			t.Errorf("RatParse(RatPrint(%v)) = %v", f, g)
		}
	}
	for _, n := range []int{0, 1, -1, 1 << 31, -1 << 31, 1 << 32, -1 << 32, math.MaxInt, math.MinInt} {
		if m := must[int](t)(exact.ToInt(exact.FromInt(n))); m != n {
			t.Errorf("ToInt(FromInt(%d)) = %d", n, m)
		}
	}
}

// isMatrix reports whether the elements are short enough for a matrix.
func isMatrix(m [][]api.Rat) bool {
	for _, row := range m {
		for _, f := range row {
			if len(f.Num.Words) > 2 || len(f.Den.Words) > 2 {
				return false
			}
		}
	}
	return true
}

func TestP1_14_RrefAgain(t *testing.T) {
	count := 0
	eachMatrix(func(_ *rand.Rand, m [][]api.Rat) {
		form, pivots, e := exact.Rref(m)
		if !isMatrix(form) {
			if _, _, e := exact.Rref(form); e != api.ErrArg {
				t.Errorf("Rref of long elements: error %d", e)
			}
			return
		}
		count++
		again, pivotsAgain, f := exact.Rref(form)
		if e != api.OK || f != api.OK || !sameRows(form, again) || !slices.Equal(pivots, pivotsAgain) {
			t.Errorf("Rref of Rref(%v) = %v, %v", m, again, pivotsAgain)
		}
	})
	if count < 100 {
		t.Errorf("only %d matrices", count)
	}
}

func TestP1_14_Kernel(t *testing.T) {
	eachMatrix(func(_ *rand.Rand, m [][]api.Rat) {
		_, pivots, _ := exact.Rref(m)
		kernel, e := exact.Kernel(m)
		if e != api.OK || len(kernel) != len(m[0])-len(pivots) {
			t.Fatalf("Kernel(%v) has %d elements, error %d", m, len(kernel), e)
		}
		for _, x := range kernel {
			for i := range m {
				if sum := dot(t, m[i], x); !sameRat(sum, rational("0")) {
					t.Errorf("row %v times %v = %v", m[i], x, sum)
				}
			}
		}
	})
}

func dot(t *testing.T, r, s []api.Rat) api.Rat {
	t.Helper()
	sum := rational("0")
	for i := range r {
		sum = must[api.Rat](t)(exact.RatAdd(sum, must[api.Rat](t)(exact.RatMul(r[i], s[i]))))
	}
	return sum
}

// product multiplies with the functions of package exact.
func product(t *testing.T, m, n [][]api.Rat) [][]api.Rat {
	t.Helper()
	var out [][]api.Rat
	for i := range m {
		var row []api.Rat
		for j := range n[0] {
			row = append(row, dot(t, m[i], column(n, j)))
		}
		out = append(out, row)
	}
	return out
}

func TestP1_14_InverseAndDet(t *testing.T) {
	r := rand.New(rand.NewSource(8))
	inverted, multiplied := 0, 0
	for n := 1; n <= api.MaxSide; n++ {
		for range 6 {
			a, b := randomMatrix(r, n, n), randomMatrix(r, n, n)
			if inverse, e := exact.Inverse(a); e == api.OK {
				inverted++
				checkOne(t, product(t, a, inverse))
			}
			p := product(t, a, b)
			if !isMatrix(p) {
				continue
			}
			multiplied++
			ok := must[api.Rat](t)
			want := ok(exact.RatMul(ok(exact.Det(a)), ok(exact.Det(b))))
			if got := ok(exact.Det(p)); !sameRat(got, want) {
				t.Errorf("Det of the product of %v and %v = %v", a, b, got)
			}
		}
	}
	if inverted < 10 || multiplied < 10 {
		t.Errorf("%d inverses, %d products", inverted, multiplied)
	}
}

func checkOne(t *testing.T, m [][]api.Rat) {
	t.Helper()
	for i := range m {
		for j := range m[i] {
			if !sameRat(m[i][j], rational(fmt.Sprint(boolInt(i == j)))) {
				t.Errorf("element %d %d is %v", i, j, m[i][j])
			}
		}
	}
}

func TestP1_15_Roots(t *testing.T) {
	for _, b := range samples() {
		if b.Sign() < 0 {
			continue
		}
		a := fromBig(b)
		for _, k := range []int{1, 2, 3, 4, 7, 10, 31, 32, 33, 63, 64} {
			root := must[api.Int](t)(exact.Root(a, k))
			low := must[api.Int](t)(exact.Pow(root, k))
			if c, e := exact.Cmp(low, a); c > 0 || e != api.OK {
				t.Errorf("Root(%v, %d) is too high", b, k)
			}
			next, e := exact.Add(root, exact.FromInt(1))
			if e == api.ErrRange { // the root of the greatest is the greatest itself
				continue
			}
			high, e := exact.Pow(next, k)
			if e == api.ErrRange { // above all that is representable
				continue
			}
			if c, f := exact.Cmp(high, a); c <= 0 || e != api.OK || f != api.OK {
				t.Errorf("Root(%v, %d) is too low", b, k)
			}
		}
	}
}
