package wax_test

import (
	"math"
	"slices"
	"testing"

	"canting/api"
	"canting/wax"
)

func TestP7_3_Cut(t *testing.T) {
	for _, w := range webs() {
		want := cuts(w)
		for u := range w.N {
			for v := range w.N {
				if u == v {
					continue
				}
				if got, e := wax.Cut(w, u, v); got != want[u][v] || e != api.OK {
					t.Errorf("%v: Cut(%d, %d) %d, %v, want %d", w, u, v, got, e, want[u][v])
				}
			}
		}
	}
}

// wayUp returns the nodes from a node to 0, both included, and nil if following parents does not lead there.
func wayUp(parent []int, node int) []int {
	way := []int{node}
	for node != 0 {
		node = parent[node]
		if node < 0 || node >= len(parent) || len(way) > len(parent) {
			return nil
		}
		way = append(way, node)
	}
	return way
}

// leastBetween returns the least weight on the way between two nodes: of the edges above just one of them.
func leastBetween(parent, weight []int, u, v int) int {
	up, other := wayUp(parent, u), wayUp(parent, v)
	least := math.MaxInt
	for _, node := range up {
		if !slices.Contains(other, node) {
			least = min(least, weight[node])
		}
	}
	for _, node := range other {
		if !slices.Contains(up, node) {
			least = min(least, weight[node])
		}
	}
	return least
}

func TestP7_3_Tree(t *testing.T) {
	deep := 0
	for _, w := range webs() {
		parent, weight, e := wax.Tree(w)
		if e != api.OK || len(parent) != w.N || len(weight) != w.N || parent[0] != -1 || weight[0] != 0 {
			t.Fatalf("%v: Tree %v, %v, %v", w, parent, weight, e)
		}
		for u := range w.N {
			way := wayUp(parent, u)
			if way == nil {
				t.Fatalf("%v: Tree %v: no way from %d to 0", w, parent, u)
			}
			if len(way) > 3 {
				deep++
			}
		}
		want := cuts(w)
		for u := range w.N {
			for v := range u {
				if got := leastBetween(parent, weight, u, v); got != want[u][v] {
					t.Errorf("%v: Tree %v, %v: %d between %d and %d, want %d", w, parent, weight, got, u, v, want[u][v])
				}
			}
		}
	}
	if deep < 20 {
		t.Errorf("only %d nodes lie deep in their trees", deep)
	}
}

func TestP7_3_Errors(t *testing.T) {
	bad := badNets()
	bad["13 nodes"] = net(13)
	bad["40 nodes"] = line(40, 3)
	for _, what := range sorted(bad) {
		w := bad[what]
		if cut, e := wax.Cut(w, 0, 1); cut != 0 || e != api.ErrArg {
			t.Errorf("%s: Cut %d, %v", what, cut, e)
		}
		if parent, weight, e := wax.Tree(w); len(parent) != 0 || len(weight) != 0 || e != api.ErrArg {
			t.Errorf("%s: Tree %v, %v, %v", what, parent, weight, e)
		}
	}
	w := line(4, 5)
	for _, pair := range [][2]int{{0, 0}, {3, 3}, {-1, 0}, {0, -1}, {4, 0}, {0, 4}, {-1, -1}, {4, 4}, {math.MinInt, 1}, {1, math.MaxInt}, {math.MaxInt, math.MinInt}} {
		if cut, e := wax.Cut(w, pair[0], pair[1]); cut != 0 || e != api.ErrArg {
			t.Errorf("Cut(%v): %d, %v", pair, cut, e)
		}
	}
	if cut, e := wax.Cut(w, 3, 0); cut != 5 || e != api.OK {
		t.Errorf("Cut(3, 0): %d, %v", cut, e)
	}
}
