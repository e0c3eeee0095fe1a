package wax_test

import (
	"fmt"
	"math/rand"
	"slices"
	"strings"
	"testing"

	"canting/api"
	"canting/wax"
)

// TestP7_Examples checks the examples of the chapter.
func TestP7_Examples(t *testing.T) {
	check := func(want string, results ...any) {
		t.Helper()
		if got := strings.TrimSpace(fmt.Sprintln(results...)); got != want {
			t.Errorf("%s, want %s", got, want)
		}
	}
	n := net(3, [3]int{0, 1, 2}, [3]int{1, 2, 2})
	check("2 [2 2]", must(wax.Value(n)), must(wax.Flow(n)))
	check("100 110", bits(must(wax.Least(n))), bits(must(wax.Greatest(n))))
	check("[[true false false] [true true false]]", must(wax.Sides(n)))
	w := net(3, [3]int{0, 1, 3}, [3]int{1, 2, 1})
	check("3 1", must(wax.Cut(w, 0, 1)), must(wax.Cut(w, 0, 2)))
	parent, weight, e := wax.Tree(w)
	check("-1 0 0 0", parent[0], weight[0], parent[1], e)
	check("3 1 1", leastBetween(parent, weight, 0, 1), leastBetween(parent, weight, 0, 2), leastBetween(parent, weight, 1, 2))
	c := wax.Cloth{W: 2, H: 1, Bare: []int{5, 0}, Waxed: []int{0, 2}, Right: []int{4}}
	for l, want := range map[[2]bool]string{{}: "5", {true, false}: "4", {false, true}: "11", {true, true}: "2"} {
		check(want, must(wax.Energy(c, 0, l[:])))
	}
	least, greatest, e := wax.Labels(c, 0)
	check("11 11 0", bits(least), bits(greatest), e)
	check("[1 1]", must(wax.Prices(c)))
}

func TestP7_6_Duality(t *testing.T) {
	r := rand.New(rand.NewSource(91))
	for _, n := range nets() {
		flow, value := must(wax.Flow(n)), must(wax.Value(n))
		for _, side := range [][]bool{must(wax.Least(n)), must(wax.Greatest(n))} {
			if ok, e := wax.Check(n, flow, side); !ok || e != api.OK || costOf(n, side) != value {
				t.Errorf("%v: Check(%v, %s): %v, %v", n, flow, bits(side), ok, e)
			}
		}
		for range 10 {
			side := randomSide(r, n)
			c := costOf(n, side)
			if ok, e := wax.Check(n, flow, side); c < value || ok != (c == value) || e != api.OK {
				t.Errorf("%v: a side that costs %d, %s, with a flow of %d: %v, %v", n, c, bits(side), value, ok, e)
			}
		}
	}
}

// randomSide has all nodes but few, few nodes, or any.
func randomSide(r *rand.Rand, n wax.Net) []bool {
	odds := r.Intn(9)
	side := make([]bool, n.N)
	for node := range side {
		side[node] = r.Intn(8) < odds
	}
	side[0], side[n.N-1] = true, false
	return side
}

func TestP7_6_AllSides(t *testing.T) {
	for _, n := range smallNets() {
		flow, value := must(wax.Flow(n)), must(wax.Value(n))
		for _, side := range must(wax.Sides(n)) {
			if ok, e := wax.Check(n, flow, side); !ok || e != api.OK || costOf(n, side) != value {
				t.Errorf("%v: Check(%v, %s): %v, %v", n, flow, bits(side), ok, e)
			}
		}
	}
}

func TestP7_7_Lattice(t *testing.T) {
	r := rand.New(rand.NewSource(92))
	for _, n := range smallNets() {
		l := must(wax.Sides(n))
		least, greatest := must(wax.Least(n)), must(wax.Greatest(n))
		known := map[string]bool{}
		for _, side := range l {
			known[bits(side)] = true
		}
		if !known[bits(least)] || !known[bits(greatest)] {
			t.Errorf("%v: Sides %v have not Least %s, Greatest %s", n, l, bits(least), bits(greatest))
		}
		for range 40 {
			a, b := l[r.Intn(len(l))], l[r.Intn(len(l))]
			if !known[bits(meet(a, b))] || !known[bits(join(a, b))] {
				t.Errorf("%v: of %s and %s something is no minimum side", n, bits(a), bits(b))
			}
			if !isWithin(least, a) || !isWithin(a, greatest) {
				t.Errorf("%v: %s is not between Least %s and Greatest %s", n, bits(a), bits(least), bits(greatest))
			}
		}
	}
}

func TestP7_8_Submodularity(t *testing.T) {
	random := rand.New(rand.NewSource(93))
	for _, c := range cloths() {
		for range 20 {
			r := random.Intn(20_001) - 10_000
			a, b := make([]bool, c.W*c.H), make([]bool, c.W*c.H)
			for i := range a {
				a[i], b[i] = random.Intn(2) == 0, random.Intn(2) == 0
			}
			apart := must(wax.Energy(c, r, a)) + must(wax.Energy(c, r, b))
			together := must(wax.Energy(c, r, meet(a, b))) + must(wax.Energy(c, r, join(a, b)))
			if together > apart {
				t.Errorf("%v at %d: %s and %s cost %d, what they have in both and in one %d", c, r, bits(a), bits(b), apart, together)
			}
		}
	}
}

func TestP7_9_Nested(t *testing.T) {
	for _, c := range cloths() {
		prices := must(wax.Prices(c))
		var before, greatestBefore []bool
		last := 0
		for _, r := range rises(c) {
			least, greatest, e := wax.Labels(c, r)
			if e != api.OK || !isWithin(least, greatest) || !slices.Equal(greatest, atLeast(prices, r)) {
				t.Errorf("%v: Labels(%d) %s, %s, %v, Prices %v", c, r, bits(least), bits(greatest), e, prices)
			}
			if before != nil && (!isWithin(least, before) || !isWithin(greatest, greatestBefore)) {
				t.Errorf("%v: Labels(%d) %s, %s, at a lesser rise %s, %s", c, r, bits(least), bits(greatest), bits(before), bits(greatestBefore))
			}
			if before != nil && last+1 == r && !isWithin(greatest, before) {
				t.Errorf("%v: at %d greatest %s, at %d least %s", c, r, bits(greatest), last, bits(before))
			}
			before, greatestBefore, last = least, greatest, r
		}
		for _, price := range prices {
			if price < -5000 || price > 5000 {
				t.Errorf("%v: Prices %v", c, prices)
			}
		}
	}
}

func TestP7_10_Triple(t *testing.T) {
	for _, w := range webs() {
		cut := func(u, v int) int { return must(wax.Cut(w, u, v)) }
		for a := range min(w.N, 8) {
			for b := range a {
				for c := range b {
					if cut(a, b) < min(cut(b, c), cut(a, c)) || cut(b, c) < min(cut(a, b), cut(a, c)) || cut(a, c) < min(cut(a, b), cut(b, c)) {
						t.Errorf("%v: cuts of %d, %d, %d: %d, %d, %d", w, a, b, c, cut(a, b), cut(b, c), cut(a, c))
					}
				}
			}
		}
	}
}
