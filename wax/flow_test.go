package wax_test

import (
	"fmt"
	"math"
	"math/rand"
	"slices"
	"testing"

	"canting/api"
	"canting/wax"
)

// TestP7_1_Flow checks that the flow is one, and that a side costs no more than its value, so that no flow has a greater one.
func TestP7_1_Flow(t *testing.T) {
	for _, n := range nets() {
		flow, e := wax.Flow(n)
		if e != api.OK || len(flow) != len(n.Arcs) || !isFlow(n, flow) {
			t.Fatalf("%v: Flow %v, %v", n, flow, e)
		}
		value, e := wax.Value(n)
		if e != api.OK || value != worth(n, flow) {
			t.Errorf("%v: Value %d, %v, the value of Flow is %d", n, value, e, worth(n, flow))
		}
		if least := must(wax.Least(n)); !isSide(n, least) || costOf(n, least) != value {
			t.Errorf("%v: Value %d, but Least %s", n, value, bits(least))
		}
	}
}

func TestP7_1_Value(t *testing.T) {
	for _, n := range smallNets() {
		_, want := minimumSides(n)
		if value, e := wax.Value(n); value != want || e != api.OK {
			t.Errorf("%v: Value %d, %v, want %d", n, value, e, want)
		}
	}
}

func TestP7_1_ValueKnown(t *testing.T) {
	for k, want := range []int{2, 0, 0, 0, 5, 0, 1_000_005, 160_000_000, 0, 0, 0, 5, 3, 2_000_000, 2, 2, 0, 0, 3, 7, 0} {
		n := plainNets()[k]
		if value, e := wax.Value(n); value != want || e != api.OK {
			t.Errorf("%v: Value %d, %v, want %d", n, value, e, want)
		}
	}
	for size, n := range map[int]wax.Net{3: line(40, 3), 1_000_000: line(40, 1_000_000)} {
		if value, e := wax.Value(n); value != size || e != api.OK {
			t.Errorf("a line of arcs with %d: Value %d, %v", size, value, e)
		}
	}
}

// TestP7_1_Check compares with the definition, for flows and sides with and without faults.
func TestP7_1_Check(t *testing.T) {
	r := rand.New(rand.NewSource(81))
	counts := map[bool]int{}
	for _, n := range nets() {
		flow, side := must(wax.Flow(n)), must(wax.Greatest(n))
		for range 12 {
			f, s := slices.Clone(flow), slices.Clone(side)
			if len(f) > 0 && r.Intn(3) > 0 {
				f[r.Intn(len(f))] += r.Intn(3) - 1
			}
			if r.Intn(3) > 0 {
				k := r.Intn(len(s))
				s[k] = !s[k]
			}
			want := isFlow(n, f) && isSide(n, s) && worth(n, f) == costOf(n, s)
			if ok, e := wax.Check(n, f, s); ok != want || e != api.OK {
				t.Errorf("%v: Check(%v, %s): %v, %v, want %v", n, f, bits(s), ok, e, want)
			}
			counts[want]++
		}
	}
	if counts[true] < 1000 || counts[false] < 1000 {
		t.Errorf("not enough of each kind: %v", counts)
	}
}

func TestP7_1_CheckKnown(t *testing.T) {
	n := net(4, [3]int{0, 1, 5}, [3]int{1, 3, 4}, [3]int{1, 2, 3}, [3]int{2, 1, 3}, [3]int{1, 0, 2})
	side := []bool{true, true, true, false}
	for _, x := range []struct {
		flow []int
		side []bool
		want bool
	}{
		{[]int{4, 4, 0, 0, 0}, side, true},
		{[]int{4, 4, 3, 3, 0}, side, true},
		{[]int{5, 4, 0, 0, 1}, side, true},
		{[]int{4, 4, 0, 0, 0}, []bool{true, true, false, false}, false},
		{[]int{5, 5, 0, 0, 0}, side, false},
		{[]int{3, 3, 0, 0, 0}, side, false},
		{[]int{4, 4, 1, 0, 0}, side, false},
		{[]int{4, 4, -1, -1, 0}, side, false},
		{[]int{4, 4, 4, 4, 0}, side, false},
		{[]int{5, 4, 1, 0, 0}, side, false},
		{[]int{4, 4, 0, 0, 0}, []bool{false, true, true, false}, false},
		{[]int{4, 4, 0, 0, 0}, []bool{true, true, true, true}, false},
		{[]int{0, 0, 0, 0, 0}, []bool{true, true, true, true}, false},
		{[]int{0, 0, 0, 0, 0}, []bool{false, false, false, false}, false},
		{[]int{math.MaxInt, math.MaxInt, 0, 0, 0}, side, false},
		{[]int{math.MinInt, math.MinInt, math.MaxInt, math.MaxInt, 1}, side, false},
	} {
		if ok, e := wax.Check(n, x.flow, x.side); ok != x.want || e != api.OK {
			t.Errorf("Check(%v, %s): %v, %v, want %v", x.flow, bits(x.side), ok, e, x.want)
		}
	}
	// In a net without a way to the sink the flow may go round, even through the sink.
	n = net(3, [3]int{2, 1, 2}, [3]int{1, 2, 1}, [3]int{1, 0, 1})
	for flow, want := range map[[3]int]bool{{0, 0, 0}: true, {1, 1, 0}: true, {1, 0, 1}: false, {2, 1, 1}: false, {1, 0, 0}: false} {
		if ok, e := wax.Check(n, flow[:], []bool{true, false, false}); ok != want || e != api.OK {
			t.Errorf("Check(%v): %v, %v, want %v", flow, ok, e, want)
		}
	}
}

func TestP7_1_Errors(t *testing.T) {
	bad := badNets()
	for _, what := range sorted(bad) {
		n := bad[what]
		if flow, e := wax.Flow(n); len(flow) != 0 || e != api.ErrArg {
			t.Errorf("%s: Flow %v, %v", what, flow, e)
		}
		if value, e := wax.Value(n); value != 0 || e != api.ErrArg {
			t.Errorf("%s: Value %d, %v", what, value, e)
		}
		for _, size := range []int{0, 1, 3} {
			if ok, e := wax.Check(n, make([]int, size), make([]bool, size)); ok || e != api.ErrArg {
				t.Errorf("%s: Check %v, %v", what, ok, e)
			}
		}
	}
	n := plainNets()[0]
	for _, sizes := range [][2]int{{0, 3}, {1, 3}, {3, 3}, {2, 0}, {2, 2}, {2, 4}, {3, 2}, {0, 0}, {1_000_000, 3}, {2, 1_000_000}} {
		flow, side := slices.Repeat([]int{2}, sizes[0]), make([]bool, sizes[1])
		if ok, e := wax.Check(n, flow, side); ok || e != api.ErrSize {
			t.Errorf("Check with %v elements: %v, %v", sizes, ok, e)
		}
	}
	if ok, e := wax.Check(net(2), nil, []bool{true, false}); !ok || e != api.OK {
		t.Errorf("Check without arcs: %v, %v", ok, e)
	}
}

func TestP7_2_LeastAndGreatest(t *testing.T) {
	different := 0
	for _, n := range smallNets() {
		sides, _ := minimumSides(n)
		least, greatest := sides[0], sides[0]
		for _, side := range sides {
			least, greatest = meet(least, side), join(greatest, side)
		}
		if got, e := wax.Least(n); !slices.Equal(got, least) || e != api.OK {
			t.Errorf("%v: Least %s, %v, want %s", n, bits(got), e, bits(least))
		}
		if got, e := wax.Greatest(n); !slices.Equal(got, greatest) || e != api.OK {
			t.Errorf("%v: Greatest %s, %v, want %s", n, bits(got), e, bits(greatest))
		}
		if !slices.Equal(least, greatest) {
			different++
		}
	}
	if different < 100 {
		t.Errorf("only %d nets have several minimum sides", different)
	}
}

// TestP7_2_LargeNets asks for each node whether the least cost becomes greater if the node must be false, or true: an arc to the sink, or from the source, that is too expensive to cut makes it so.
func TestP7_2_LargeNets(t *testing.T) {
	const most = 1_000_000
	for _, n := range nets() {
		value := must(wax.Value(n))
		if n.N <= 12 || value >= most || len(n.Arcs) >= api.MaxArcs {
			continue
		}
		with := func(from, to int) int {
			return must(wax.Value(wax.Net{N: n.N, Arcs: append(slices.Clone(n.Arcs), wax.Arc{From: from, To: to, Cap: most})}))
		}
		least, greatest := make([]bool, n.N), make([]bool, n.N)
		least[0], greatest[0] = true, true
		for node := 1; node < n.N-1; node++ {
			least[node] = with(node, n.N-1) > value
			greatest[node] = with(0, node) == value
		}
		if got, e := wax.Least(n); !slices.Equal(got, least) || e != api.OK {
			t.Errorf("%v: Least %s, %v, want %s", n, bits(got), e, bits(least))
		}
		if got, e := wax.Greatest(n); !slices.Equal(got, greatest) || e != api.OK {
			t.Errorf("%v: Greatest %s, %v, want %s", n, bits(got), e, bits(greatest))
		}
	}
}

func TestP7_2_Sides(t *testing.T) {
	for _, n := range smallNets() {
		want, _ := minimumSides(n)
		if got, e := wax.Sides(n); fmt.Sprint(got) != fmt.Sprint(want) || e != api.OK {
			t.Errorf("%v: Sides %v, %v, want %v", n, got, e, want)
		}
	}
	for nodes := 2; nodes <= 12; nodes++ {
		if l, e := wax.Sides(net(nodes)); len(l) != 1<<(nodes-2) || e != api.OK {
			t.Errorf("without arcs, %d nodes: %d sides, %v", nodes, len(l), e)
		}
	}
}

func TestP7_2_SidesKnown(t *testing.T) {
	l, e := wax.Sides(line(5, 4))
	if got := fmt.Sprint(l); got != "[[true false false false false] [true true false false false] [true true true false false] [true true true true false]]" || e != api.OK {
		t.Errorf("Sides of a line: %s, %v", got, e)
	}
	l, e = wax.Sides(net(4, [3]int{0, 3, 9}, [3]int{3, 1, 5}))
	if got := fmt.Sprint(l); got != "[[true false false false] [true false true false] [true true false false] [true true true false]]" || e != api.OK {
		t.Errorf("Sides of two free nodes: %s, %v", got, e)
	}
}

func TestP7_2_Errors(t *testing.T) {
	bad := badNets()
	for _, what := range sorted(bad) {
		n := bad[what]
		for _, f := range []func(wax.Net) ([]bool, api.Errno){wax.Least, wax.Greatest} {
			if side, e := f(n); len(side) != 0 || e != api.ErrArg {
				t.Errorf("%s: %v, %v", what, side, e)
			}
		}
		if sides, e := wax.Sides(n); len(sides) != 0 || e != api.ErrArg {
			t.Errorf("%s: Sides %v, %v", what, sides, e)
		}
	}
	for _, n := range nets() {
		sides, e := wax.Sides(n)
		if isLarge := n.N > 12; isLarge != (e == api.ErrSize) || isLarge != (len(sides) == 0) {
			t.Errorf("%v: Sides %v, %v", n, sides, e)
		}
	}
	large := net(13, [3]int{0, 1, -1})
	if sides, e := wax.Sides(large); len(sides) != 0 || e != api.ErrArg {
		t.Errorf("a bad arc in a large net: Sides %v, %v", sides, e)
	}
}
