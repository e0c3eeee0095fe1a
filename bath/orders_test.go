package bath_test

import (
	"math"
	"math/rand"
	"slices"
	"testing"

	"canting/api"
	"canting/bath"
)

func TestP5_4_Cost(t *testing.T) {
	r := rand.New(rand.NewSource(71))
	for _, p := range plans() {
		lists := [][]int{r.Perm(len(p.Start)), r.Perm(len(p.Start))}
		for _, order := range orders(smallPart(p)) {
			lists = append(lists, order)
		}
		for _, order := range lists {
			cost, e := bath.Cost(p, order)
			switch {
			case isOrder(p, order) && (e != api.OK || cost != costOf(p, order)):
				t.Errorf("Cost(%v, %v): %d, %v, want %d", p, order, cost, e, costOf(p, order))
			case !isOrder(p, order) && (e != api.ErrForm || cost != 0):
				t.Errorf("Cost(%v, %v): %d, %v, want ErrForm", p, order, cost, e)
			}
		}
	}
}

// smallPart returns a plan of at most 6 baths without its pairs, else the first 4 baths of it.
func smallPart(p bath.Plan) bath.Plan {
	if len(p.Start) > 6 {
		return bath.Plan{Start: p.Start[:4]}
	}
	return bath.Plan{Start: p.Start}
}

func TestP5_4_CostErrors(t *testing.T) {
	p := bath.Plan{Start: []int{1, 2, 3}, Change: [][]int{{0, 5, 1}, {1, 0, 1}, {4, 4, 0}}}
	noOrders := [][]int{nil, {}, {0}, {0, 1}, {0, 1, 2, 0}, {0, 1, 2, 3}, {0, 0, 1}, {0, 1, 1}, {2, 2, 2}, {1, 2, 3}, {-1, 0, 1}, {0, 1, 64}, {0, 1, -62}, {0, 1, math.MaxInt}, {math.MinInt, 0, 1}, make([]int, 100000)}
	for _, order := range noOrders {
		if cost, e := bath.Cost(p, order); cost != 0 || e != api.ErrForm {
			t.Errorf("Cost of %v: %d, %v", order, cost, e)
		}
	}
	p.Before = [][2]int{{1, 0}, {2, 0}}
	for _, order := range [][]int{{0, 1, 2}, {0, 2, 1}, {1, 0, 2}, {2, 0, 1}} {
		if cost, e := bath.Cost(p, order); cost != 0 || e != api.ErrForm {
			t.Errorf("Cost of %v with pairs: %d, %v", order, cost, e)
		}
	}
	if cost, e := bath.Cost(p, []int{2, 1, 0}); cost != 8 || e != api.OK {
		t.Errorf("Cost of 2 1 0: %d, %v", cost, e)
	}
	bad := badPlans()
	for _, what := range sorted(bad) {
		for _, order := range [][]int{nil, {0}, {0, 1, 2}, {2, 2, 2}} {
			if cost, e := bath.Cost(bad[what], order); cost != 0 || e != api.ErrArg {
				t.Errorf("Cost, %s: %d, %v", what, cost, e)
			}
		}
	}
}

func TestP5_4_Best(t *testing.T) {
	kinds := map[api.Errno]int{}
	for _, p := range smallPlans() {
		want, ok := cheapest(p)
		got, e := bath.Best(p)
		kinds[e]++
		if ok && e != api.OK || !ok && e != api.ErrNone || !slices.Equal(got, want) {
			t.Errorf("Best(%v): %v, %v, want %v", p, got, e, want)
		}
	}
	if kinds[api.OK] < 100 || kinds[api.ErrNone] < 20 {
		t.Errorf("not enough plans of each kind: %v", kinds)
	}
}

// TestP5_4_BestOfEight lists all orders of a few larger plans, with many that cost the same.
func TestP5_4_BestOfEight(t *testing.T) {
	r := rand.New(rand.NewSource(72))
	for n := 7; n <= 8; n++ {
		for _, most := range []int{1, 3, 1000} {
			p := randomPlan(r, n, most, n/2, 0)
			if got, want := must(bath.Best(p)), found(cheapest(p)); !slices.Equal(got, want) {
				t.Errorf("Best(%v): %v, want %v", p, got, want)
			}
		}
	}
}

// found returns the result of a call that has to find one.
func found[T any](x T, ok bool) T {
	if !ok {
		panic("there is none")
	}
	return x
}

// forward returns the first of the cheapest orders: it lengthens, for each set and last bath, the first of the cheapest beginnings.
func forward(p bath.Plan) []int {
	n := len(p.Start)
	best := make([][]int, n<<n) // by the set and the last bath
	var first []int
	for set := range 1 << n {
		for last := range n {
			front := best[n*set+last]
			if set == 1<<n-1 && front != nil && (first == nil || before(p, front, first)) {
				first = front
			}
			if set != 0 && front == nil || set == 0 && last != 0 {
				continue
			}
			for next := range n {
				if follows(p, set, next) {
					to := n*(set+1<<next) + next
					longer := append(slices.Clone(front), next)
					if best[to] == nil || before(p, longer, best[to]) {
						best[to] = longer
					}
				}
			}
		}
	}
	return first
}

// before reports whether a beginning of an order costs less than another, or as much and comes before it.
func before(p bath.Plan, a, b []int) bool {
	if costOf(p, a) != costOf(p, b) {
		return costOf(p, a) < costOf(p, b)
	}
	return slices.Compare(a, b) < 0
}

func TestP5_4_BestOfLarge(t *testing.T) {
	for _, p := range plans() {
		want := forward(p)
		got, e := bath.Best(p)
		if (e == api.OK) != (want != nil) || e != api.OK && e != api.ErrNone || !slices.Equal(got, want) {
			t.Errorf("Best(%v): %v, %v, want %v", p, got, e, want)
		}
	}
	free := bath.Plan{Start: make([]int, 10), Change: rows(10, 10)}
	if got := must(bath.Best(free)); !slices.Equal(got, []int{0, 1, 2, 3, 4, 5, 6, 7, 8, 9}) {
		t.Errorf("Best of ten baths without costs: %v", got)
	}
	for i := range 9 {
		free.Before = append(free.Before, [2]int{i + 1, i})
	}
	if got := must(bath.Best(free)); !slices.Equal(got, []int{9, 8, 7, 6, 5, 4, 3, 2, 1, 0}) {
		t.Errorf("Best of ten baths, each before the last: %v", got)
	}
	free.Before = append(free.Before, [2]int{0, 9})
	if got, e := bath.Best(free); len(got) != 0 || e != api.ErrNone {
		t.Errorf("Best of ten baths in a circle: %v, %v", got, e)
	}
}

func TestP5_5_Prices(t *testing.T) {
	for _, p := range smallPlans() {
		got, e := bath.Prices(p)
		if _, ok := cheapest(p); !ok {
			if len(got) != 0 || e != api.ErrNone {
				t.Errorf("Prices(%v): %v, %v, want ErrNone", p, got, e)
			}
			continue
		}
		n := len(p.Start)
		want := slices.Repeat([]int{-1}, n<<n)
		for set := range 1 << n {
			for last := range n {
				if has(set, last) {
					want[n*set+last] = found(toPay(p, set, last))
				}
			}
		}
		if e != api.OK || !slices.Equal(got, want) {
			t.Errorf("Prices(%v): %v, %v, want %v", p, got, e, want)
		}
	}
}

func TestP5_5_PricesOfLarge(t *testing.T) {
	r := rand.New(rand.NewSource(73))
	for _, p := range plans() {
		table, e := bath.Prices(p)
		if e != api.OK {
			continue
		}
		n := len(p.Start)
		if len(table) != n<<n {
			t.Fatalf("Prices(%v) has %d elements", p, len(table))
		}
		for range 30 {
			set, last := r.Intn(1<<n), r.Intn(n)
			for k := range n - 6 { // no more than 6 baths to add
				set |= 1 << ((last + k) % n)
			}
			want := -1
			if has(set, last) {
				want = found(toPay(p, set, last))
			}
			if got := table[n*set+last]; got != want {
				t.Errorf("Prices(%v) of %b, %d: %d, want %d", p, set, last, got, want)
			}
		}
	}
}

// proven returns the number that a price table proves, by its definition.
func proven(p bath.Plan, t []int) int {
	n, least := len(p.Start), math.MaxInt
	for i := range n {
		if follows(p, 0, i) {
			least = min(least, p.Start[i]+t[n<<i+i])
		}
	}
	return least
}

// changedPrices returns some price tables that differ from one in some elements.
func changedPrices(r *rand.Rand, table []int) [][]int {
	tables := [][]int{table, make([]int, len(table)), slices.Repeat([]int{1 << 40}, len(table)), slices.Repeat([]int{-1 << 40}, len(table))}
	for _, change := range []int{-1 << 39, -3, -1, 1, 3, 1000, 1 << 39} {
		for range 3 {
			one := slices.Clone(table)
			one[r.Intn(len(one))] += change
			tables = append(tables, one)
		}
	}
	lower, noise := slices.Clone(table), slices.Clone(table)
	for i := range table {
		lower[i] -= r.Intn(2)
		if table[i] < 0 { // where the last bath is not in the set
			noise[i] = r.Intn(1<<41) - 1<<40
		}
	}
	return append(tables, lower, noise)
}

func TestP5_5_Check(t *testing.T) {
	r := rand.New(rand.NewSource(74))
	kinds := map[bool]int{}
	for _, p := range smallPlans() {
		table, e := bath.Prices(p)
		if e != api.OK {
			continue
		}
		for _, x := range changedPrices(r, table) {
			want := soundPrices(p, x)
			kinds[want]++
			if n, ok, e := bath.Check(p, x); n != proven(p, x) || ok != want || e != api.OK {
				t.Errorf("Check(%v, %v): %d, %v, %v, want %d, %v", p, x, n, ok, e, proven(p, x), want)
			}
		}
	}
	if kinds[true] < 100 || kinds[false] < 100 {
		t.Errorf("not enough tables of each kind: %v", kinds)
	}
}

// TestP5_5_CheckOfEach raises each element of a price table: those that matter cannot be higher.
func TestP5_5_CheckOfEach(t *testing.T) {
	r := rand.New(rand.NewSource(75))
	for n := 1; n <= 6; n++ {
		p := randomPlan(r, n, 1000, n/2, 0)
		table := must(bath.Prices(p))
		for i := range table {
			table[i]++
			got, ok, e := bath.Check(p, table)
			if matters := has(i/n, i%n); ok == matters || got != proven(p, table) || e != api.OK {
				t.Errorf("Check(%v) of a higher element %d: %d, %v, %v", p, i, got, ok, e)
			}
			table[i]--
		}
	}
}

func TestP5_5_CheckErrors(t *testing.T) {
	const limit = 1 << 40
	p := bath.Plan{Start: []int{1, 2}, Change: [][]int{{0, 5}, {1, 0}}}
	none := bath.Plan{Start: p.Start, Change: p.Change, Before: [][2]int{{0, 1}, {1, 0}}}
	check := func(p bath.Plan, table []int, want api.Errno) {
		if n, ok, e := bath.Check(p, table); n != 0 || ok || e != want {
			t.Errorf("Check(%v, %v): %d, %v, %v, want %v", p, table, n, ok, e, want)
		}
	}
	for _, n := range []int{0, 1, 4, 7, 9, 16, 100000} {
		for _, x := range []int{0, limit + 1} {
			check(p, slices.Repeat([]int{x}, n), api.ErrSize)
			check(none, slices.Repeat([]int{x}, n), api.ErrSize)
		}
	}
	for at := range 8 {
		for _, x := range []int{limit + 1, -limit - 1, math.MaxInt, math.MinInt} {
			table := make([]int, 8)
			table[at] = x
			check(p, table, api.ErrArg)
			check(none, table, api.ErrArg)
		}
	}
	check(none, make([]int, 8), api.ErrNone)
	if n, ok, e := bath.Check(p, slices.Repeat([]int{limit}, 8)); n != limit+1 || ok || e != api.OK {
		t.Errorf("at the limit: %d, %v, %v", n, ok, e)
	}
	if n, ok, e := bath.Check(p, slices.Repeat([]int{-limit}, 8)); n != 1-limit || !ok || e != api.OK {
		t.Errorf("at the low limit: %d, %v, %v", n, ok, e)
	}
	bad := badPlans()
	for _, what := range sorted(bad) {
		check(bad[what], nil, api.ErrArg)
		check(bad[what], make([]int, 24), api.ErrArg)
		check(bad[what], slices.Repeat([]int{limit + 1}, 24), api.ErrArg)
	}
}

func TestP5_4_PlanErrors(t *testing.T) {
	bad := badPlans()
	for _, what := range sorted(bad) {
		if x, e := bath.Best(bad[what]); len(x) != 0 || e != api.ErrArg {
			t.Errorf("Best, %s: %v, %v", what, x, e)
		}
		if x, e := bath.Prices(bad[what]); len(x) != 0 || e != api.ErrArg {
			t.Errorf("Prices, %s: %v, %v", what, x, e)
		}
	}
	circle := bath.Plan{Start: make([]int, 11), Change: rows(11, 11), Before: [][2]int{{0, 1}, {1, 0}}}
	if x, e := bath.Best(circle); len(x) != 0 || e != api.ErrArg {
		t.Errorf("Best of too many baths without an order: %v, %v", x, e)
	}
}
