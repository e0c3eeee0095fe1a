package mask_test

import (
	"math"
	"math/rand"
	"slices"
	"testing"

	"canting/api"
	"canting/mask"
)

func restricted(table []bool, i int, b bool) []bool {
	n := variables(table)
	return tableBy(n, func(p int) bool { return table[with(p, i, n, b)] })
}

// quantified returns whether some, or all, values of the variables of a set make a function true.
func quantified(table []bool, set []int, all bool) []bool {
	n := variables(table)
	return tableBy(n, func(p int) bool {
		for values := range 1 << len(set) {
			q := p
			for j, i := range set {
				q = with(q, i, n, values>>j&1 == 1)
			}
			if table[q] != all {
				return !all
			}
		}
		return all
	})
}

func composed(table []bool, i int, other []bool) []bool {
	n := variables(table)
	return tableBy(n, func(p int) bool { return table[with(p, i, n, other[p])] })
}

func TestP2_4_Restrict(t *testing.T) {
	check := func(table []bool, i int) {
		t.Helper()
		for _, b := range []bool{false, true} {
			f, e := mask.Restrict(canonical(table), i, b)
			wantMask(t, f, e, restricted(table, i, b), "Restrict", i, b)
		}
	}
	for _, table := range allTables(3) {
		for i := range 3 {
			check(table, i)
		}
	}
	for _, n := range sizes {
		for _, table := range someTables(n) {
			for i := range n {
				check(table, i)
			}
		}
	}
}

// subsets calls try with each set of variables, in more than one order.
func subsets(r *rand.Rand, n int, try func(set []int)) {
	for number := range 1 << n {
		var set []int
		for _, i := range r.Perm(n) {
			if number>>i&1 == 1 {
				set = append(set, i)
			}
		}
		try(set)
	}
}

func checkQuantifiers(t *testing.T, table []bool, set []int) {
	t.Helper()
	f, e := mask.Exists(canonical(table), set)
	wantMask(t, f, e, quantified(table, set, false), "Exists", set)
	f, e = mask.Forall(canonical(table), set)
	wantMask(t, f, e, quantified(table, set, true), "Forall", set)
}

func TestP2_4_Quantifiers(t *testing.T) {
	r := rand.New(rand.NewSource(4))
	for _, table := range allTables(3) {
		subsets(r, 3, func(set []int) { checkQuantifiers(t, table, set) })
	}
	for _, n := range []int{0, 1, 4, 5} {
		for _, table := range someTables(n) {
			subsets(r, n, func(set []int) { checkQuantifiers(t, table, set) })
		}
	}
	for _, table := range someTables(12) {
		checkQuantifiers(t, table, r.Perm(12)[:1+r.Intn(3)])
	}
	sparse := tableBy(12, func(p int) bool { return p == 1234 || p == 77 })
	checkQuantifiers(t, sparse, []int{11, 0, 5, 3, 4, 6, 1})
}

func TestP2_4_QuantifyAll(t *testing.T) {
	all := []int{11, 10, 9, 8, 7, 6, 5, 4, 3, 2, 1, 0}
	for _, table := range someTables(12) {
		some, every := len(pointsOf(table)) > 0, len(pointsOf(table)) == len(table)
		f, e := mask.Exists(canonical(table), all)
		wantMask(t, f, e, tableBy(12, func(int) bool { return some }), "Exists of all")
		f, e = mask.Forall(canonical(table), all)
		wantMask(t, f, e, tableBy(12, func(int) bool { return every }), "Forall of all")
	}
}

func TestP2_4_Compose(t *testing.T) {
	r := rand.New(rand.NewSource(5))
	check := func(table []bool, i int, other []bool) {
		t.Helper()
		f, e := mask.Compose(canonical(table), i, canonical(other))
		wantMask(t, f, e, composed(table, i, other), "Compose", i)
	}
	for _, table := range allTables(2) {
		for _, other := range allTables(2) {
			check(table, 0, other)
			check(table, 1, other)
		}
	}
	for _, n := range sizes {
		tables := someTables(n)
		for _, table := range tables {
			for i := range n {
				check(table, i, tables[r.Intn(len(tables))])
			}
		}
	}
	for range 300 {
		n := 3 + r.Intn(3)
		check(randomTable(r, n, 0.5), r.Intn(n), randomTable(r, n, 0.5))
	}
}

func TestP2_4_Support(t *testing.T) {
	check := func(table []bool) {
		t.Helper()
		var want []int
		for i := range variables(table) {
			if !slices.Equal(restricted(table, i, false), restricted(table, i, true)) {
				want = append(want, i)
			}
		}
		if got, e := mask.Support(canonical(table)); !slices.Equal(got, want) || e != api.OK {
			t.Errorf("Support(%v): %v, error %d, want %v", short(canonical(table)), got, e, want)
		}
	}
	for n := range 4 {
		for _, table := range allTables(n) {
			check(table)
		}
	}
	for _, n := range sizes {
		for _, table := range someTables(n) {
			check(table)
		}
	}
}

func TestP2_4_Invalid(t *testing.T) {
	f := nodes(3, [3]int{2, 0, 1}, [3]int{0, 0, 2})
	for _, i := range []int{-1, 3, 4, 12, 64, math.MinInt, math.MaxInt} {
		for _, b := range []bool{false, true} {
			if g, e := mask.Restrict(f, i, b); e != api.ErrArg || !isZero(g) {
				t.Errorf("Restrict of variable %d: %v, error %d", i, g, e)
			}
		}
		if g, e := mask.Compose(f, i, f); e != api.ErrArg || !isZero(g) {
			t.Errorf("Compose of variable %d: %v, error %d", i, g, e)
		}
	}
	sets := [][]int{{-1}, {3}, {0, 3}, {0, 0}, {2, 1, 2}, {1, -1, 2}, {0, 1, 2, 3}, {0, 1, 2, 0}, {math.MinInt}, {math.MaxInt}, {0, math.MaxInt}, make([]int, 1_000_000)}
	for _, set := range sets {
		if g, e := mask.Exists(f, set); e != api.ErrArg || !isZero(g) {
			t.Errorf("Exists of %v: %v, error %d", set[:min(len(set), 5)], g, e)
		}
		if g, e := mask.Forall(f, set); e != api.ErrArg || !isZero(g) {
			t.Errorf("Forall of %v: %v, error %d", set[:min(len(set), 5)], g, e)
		}
	}
	none, _ := mask.Const(0, true)
	if _, e := mask.Restrict(none, 0, true); e != api.ErrArg {
		t.Errorf("Restrict without variables: error %d", e)
	}
	if _, e := mask.Exists(none, []int{0}); e != api.ErrArg {
		t.Errorf("Exists without variables: error %d", e)
	}
}
