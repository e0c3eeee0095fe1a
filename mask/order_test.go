package mask_test

import (
	"math"
	"math/rand"
	"slices"
	"testing"

	"canting/api"
	"canting/mask"
)

// reordered is the definition: where variable i has the value v[i], the value of the function where variable perm[i] has the value v[i].
func reordered(table []bool, perm []int) []bool {
	n := variables(table)
	return tableBy(n, func(p int) bool {
		q := 0
		for i := range n {
			q = with(q, perm[i], n, bit(p, i, n))
		}
		return table[q]
	})
}

// permutations calls try with the permutations of n, in order, element by element from the front.
func permutations(n int, try func(perm []int)) {
	var grow func(perm []int)
	grow = func(perm []int) {
		if len(perm) == n {
			try(perm)
			return
		}
		for i := range n {
			if !slices.Contains(perm, i) {
				grow(append(slices.Clone(perm), i))
			}
		}
	}
	grow(nil)
}

func TestP2_7_Reorder(t *testing.T) {
	check := func(table []bool, perm []int) {
		t.Helper()
		f, e := mask.Reorder(canonical(table), perm)
		wantMask(t, f, e, reordered(table, perm), "Reorder", perm)
	}
	for n := range 5 {
		for _, table := range someTables(n) {
			permutations(n, func(perm []int) { check(table, perm) })
		}
	}
	r := rand.New(rand.NewSource(7))
	for _, n := range []int{5, 7, 9, 12} {
		for _, table := range someTables(n) {
			check(table, r.Perm(n))
		}
	}
}

func TestP2_7_ReorderInvalid(t *testing.T) {
	f := nodes(3, [3]int{2, 0, 1}, [3]int{0, 0, 2})
	perms := [][]int{nil, {0}, {0, 1}, {0, 1, 1}, {0, 0, 0}, {1, 2, 3}, {-1, 0, 1}, {0, 1, 2, 3}, {0, 1, 2, 2}, {0, 1, math.MaxInt}, {math.MinInt, 0, 1}, make([]int, 1_000_000)}
	for _, perm := range perms {
		if g, e := mask.Reorder(f, perm); e != api.ErrArg || !isZero(g) {
			t.Errorf("Reorder by %v: %v, error %d", perm[:min(len(perm), 5)], g, e)
		}
	}
	none, _ := mask.Const(0, true)
	if g, e := mask.Reorder(none, nil); e != api.OK || !same(g, none) {
		t.Errorf("Reorder without variables: %v, error %d", g, e)
	}
}

// best tries all permutations.
func best(table []bool) []int {
	var first []int
	fewest := math.MaxInt
	permutations(variables(table), func(perm []int) {
		if n := len(canonical(reordered(table, perm)).Nodes); n < fewest {
			first, fewest = perm, n
		}
	})
	return first
}

func checkBest(t *testing.T, table []bool, want []int) {
	t.Helper()
	f := canonical(table)
	if got, e := mask.Best(f); e != api.OK || !slices.Equal(got, want) {
		t.Errorf("Best(%v): %v, error %d, want %v", short(f), got, e, want)
	}
}

func TestP2_7_Best(t *testing.T) {
	for n := range 4 {
		for _, table := range allTables(n) {
			checkBest(t, table, best(table))
		}
	}
	r := rand.New(rand.NewSource(8))
	for range 300 {
		table := numbered(4, r.Uint64())
		checkBest(t, table, best(table))
	}
	for _, table := range someTables(5) {
		checkBest(t, table, best(table))
	}
	seven := cubesTable(r, 7, 5)
	checkBest(t, seven, best(seven))
	for range 8 {
		table := randomTable(r, 5, 0.5)
		checkBest(t, table, best(table))
		table = cubesTable(r, 6, 4)
		checkBest(t, table, best(table))
	}
}

// TestP2_7_BestOfEight checks functions of 8 variables whose best order is known.
func TestP2_7_BestOfEight(t *testing.T) {
	pairs := func(other func(i int) int) []bool {
		return tableBy(8, func(p int) bool {
			for i := range 8 {
				if bit(p, i, 8) && bit(p, other(i), 8) {
					return true
				}
			}
			return false
		})
	}
	checkBest(t, pairs(func(i int) int { return (i + 4) % 8 }), []int{0, 4, 1, 5, 2, 6, 3, 7})
	checkBest(t, pairs(func(i int) int { return 7 - i }), []int{0, 7, 1, 6, 2, 5, 3, 4})
	checkBest(t, pairs(func(i int) int { return i ^ 1 }), []int{0, 1, 2, 3, 4, 5, 6, 7})
	checkBest(t, sums(8, func(ones int) bool { return ones%3 == 1 }), []int{0, 1, 2, 3, 4, 5, 6, 7})
	// The variables 5, 6, 7 choose which of the others is asked. (Found by trying all permutations.)
	chosen := tableBy(8, func(p int) bool { return bit(p, p&7%5, 8) })
	checkBest(t, chosen, []int{5, 7, 6, 0, 1, 2, 3, 4})
}

func TestP2_7_BestErrors(t *testing.T) {
	for n := 9; n <= 12; n++ {
		for _, table := range someTables(n) {
			if got, e := mask.Best(canonical(table)); e != api.ErrSize || len(got) != 0 {
				t.Errorf("Best of %d variables: %v, error %d", n, got, e)
			}
		}
		if _, e := mask.Best(mask.Mask{Vars: n, Root: 2}); e != api.ErrArg {
			t.Errorf("Best of no mask of %d variables: error %d", n, e)
		}
	}
}
