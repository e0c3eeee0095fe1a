package crackle_test

import (
	"fmt"
	"math/bits"
	"math/rand"
	"slices"
	"testing"

	"canting/api"
	"canting/crackle"
)

func TestP8_6_Cycles(t *testing.T) {
	for _, m := range smallMaps() {
		if got, e := crackle.Cycles(m); !slices.Equal(got, cyclesOf(m, 12)) || e != api.OK {
			t.Errorf("%v: Cycles %b, %v, want %b", m, got, e, cyclesOf(m, 12))
		}
	}
}

func TestP8_6_Bonds(t *testing.T) {
	for _, m := range smallMaps() {
		if got, e := crackle.Bonds(m); !slices.Equal(got, bondsOf(m)) || e != api.OK {
			t.Errorf("%v: Bonds %b, %v, want %b", m, got, e, bondsOf(m))
		}
	}
}

func TestP8_6_Known(t *testing.T) {
	r := rand.New(rand.NewSource(89))
	for _, x := range []struct {
		m             crackle.Map
		cycles, bonds string
	}{
		{dots(), "[]", "[]"},
		{dots(0, 1), "[]", "[1]"},
		{dots(1, 0), "[1]", "[]"},
		{dots(2, 3, 1, 0), "[1 2]", "[]"},
		{dots(0, 1, 2, 3), "[]", "[1 2]"},
		{dots(0, 1, 3, 2), "[2]", "[1]"},
		{dots(2, 3, 0, 1), "[3]", "[3]"},
		{dots(2, 3, 4, 5, 0, 1), "[3 5 6]", "[7]"},
		{must(crackle.Grid(2, 2)), "[15]", "[3 5 6 9 10 12]"},
		{must(crackle.Grid(3, 1)), "[]", "[1 2]"},
		// A loop at each end of an edge.
		{dots(1, 4, 3, 5, 0, 2), "[1 2]", "[4]"},
		// Two triangles with one point in common.
		{withEnds(r, [2]int{0, 1}, [2]int{1, 2}, [2]int{2, 0}, [2]int{0, 3}, [2]int{3, 4}, [2]int{4, 0}), "[7 56]", "[3 5 6 24 40 48]"},
		// Two triangles apart.
		{withEnds(r, [2]int{0, 1}, [2]int{1, 2}, [2]int{2, 0}, [2]int{5, 3}, [2]int{3, 4}, [2]int{4, 5}), "[7 56]", "[3 5 6 24 40 48]"},
		// Two triangles with one edge in common.
		{withEnds(r, [2]int{0, 1}, [2]int{1, 2}, [2]int{2, 0}, [2]int{0, 3}, [2]int{3, 1}), "[7 25 30]", "[6 11 13 19 21 24]"},
		{path(r, 3), "[]", "[1 2 4]"},
		{bundle(r, 12, 4, 5), fmt.Sprint(pairsOf(12)), "[4095]"},
		{ring(r, 12), "[4095]", fmt.Sprint(pairsOf(12))},
		{bundle(r, 12, 4, 4), fmt.Sprint(singles(12)), "[]"},
		{star(r, 12), "[]", fmt.Sprint(singles(12))},
		{apart(12, dots(1, 0)), fmt.Sprint(singles(12)), "[]"},
		{apart(12, dots(0, 1)), "[]", fmt.Sprint(singles(12))},
	} {
		cycles, e := crackle.Cycles(x.m)
		bonds, f := crackle.Bonds(x.m)
		if fmt.Sprint(cycles) != x.cycles || fmt.Sprint(bonds) != x.bonds || e != api.OK || f != api.OK {
			t.Errorf("%v: Cycles %v, %v, Bonds %v, %v, want %s and %s", x.m, cycles, e, bonds, f, x.cycles, x.bonds)
		}
	}
}

// pairsOf returns all sets of two of n edges.
func pairsOf(n int) []int {
	var l []int
	for e := range n {
		for f := range e {
			l = append(l, 1<<e|1<<f)
		}
	}
	slices.Sort(l)
	return l
}

func singles(n int) []int {
	var l []int
	for e := range n {
		l = append(l, 1<<e)
	}
	return l
}

func TestP8_6_Errors(t *testing.T) {
	bad := badMaps()
	for _, what := range sorted(bad) {
		if l, e := crackle.Cycles(bad[what]); len(l) != 0 || e != api.ErrArg {
			t.Errorf("%s: Cycles %v, %v", what, l, e)
		}
		if l, e := crackle.Bonds(bad[what]); len(l) != 0 || e != api.ErrArg {
			t.Errorf("%s: Bonds %v, %v", what, l, e)
		}
	}
	for _, m := range largeMaps() {
		if l, e := crackle.Cycles(m); len(l) != 0 || e != api.ErrSize {
			t.Errorf("%v: Cycles %v, %v", m, l, e)
		}
		if l, e := crackle.Bonds(m); len(l) != 0 || e != api.ErrSize {
			t.Errorf("%v: Bonds %v, %v", m, l, e)
		}
	}
}

// leastSize returns the least number of edges of a set.
func leastSize(sets []int) (least int, found bool) {
	for _, set := range sets {
		if n := bits.OnesCount(uint(set)); !found || n < least {
			least, found = n, true
		}
	}
	return least, found
}

// girthOf looks for longer and longer cycles.
func girthOf(m crackle.Map) (least int, found bool) {
	if edges(m) == len(different(vertexOf(m)))-len(different(partOf(m))) {
		return 0, false
	}
	for least = 1; ; least++ {
		if len(cyclesOf(m, least)) > 0 {
			return least, true
		}
	}
}

// toughOf counts the ways without a common edge from the first vertex of each part to each other one.
func toughOf(m crackle.Map) (least int, found bool) {
	part, vertex := partOf(m), vertexOf(m)
	for d, v := range vertex {
		if v != d || v == part[d] {
			continue
		}
		if n := waysBetween(m, part[d], v); !found || n < least {
			least, found = n, true
		}
	}
	return least, found
}

// waysBetween counts the most ways without a common edge between two vertices: a way may take back an edge of an earlier one.
func waysBetween(m crackle.Map, from, to int) int {
	vertex := vertexOf(m)
	used := make([]bool, len(m.Next)) // by darts
	for count := 0; ; count++ {
		last := map[int]int{from: -1}
		queue := []int{from}
		for len(queue) > 0 {
			v := queue[0]
			queue = queue[1:]
			for d, start := range vertex {
				if _, met := last[vertex[d^1]]; start == v && !used[d] && !met {
					last[vertex[d^1]] = d
					queue = append(queue, vertex[d^1])
				}
			}
		}
		if _, met := last[to]; !met {
			return count
		}
		for v := to; v != from; v = vertex[last[v]] {
			d := last[v]
			if used[d^1] {
				used[d^1] = false
			} else {
				used[d] = true
			}
		}
	}
}

func TestP8_7_Girth(t *testing.T) {
	seen := map[int]int{}
	for _, m := range allKinds() {
		want, found := girthOf(m)
		n, e := crackle.Girth(m)
		if n != want || found != (e == api.OK) || !found && e != api.ErrNone {
			t.Errorf("%v: Girth %d, %v, want %d, %v", m, n, e, want, found)
		}
		seen[want]++
	}
	for want := range 6 {
		if seen[want] < 5 {
			t.Errorf("not enough of each length: %v", seen)
		}
	}
}

func TestP8_7_Tough(t *testing.T) {
	seen := map[int]int{}
	for _, m := range allKinds() {
		want, found := toughOf(m)
		n, e := crackle.Tough(m)
		if n != want || found != (e == api.OK) || !found && e != api.ErrNone {
			t.Errorf("%v: Tough %d, %v, want %d, %v", m, n, e, want, found)
		}
		seen[want]++
	}
	for want := range 6 {
		if seen[want] < 5 {
			t.Errorf("not enough of each size: %v", seen)
		}
	}
}

// TestP8_7_Lists compares with the lists of all cycles and bonds.
func TestP8_7_Lists(t *testing.T) {
	for _, m := range smallMaps() {
		for _, x := range []struct {
			what string
			sets []int
			call func(crackle.Map) (int, api.Errno)
		}{
			{"Girth", cyclesOf(m, 12), crackle.Girth},
			{"Tough", bondsOf(m), crackle.Tough},
		} {
			want, found := leastSize(x.sets)
			n, e := x.call(m)
			if n != want || found != (e == api.OK) || !found && e != api.ErrNone {
				t.Errorf("%v: %s %d, %v, want %d, %v", m, x.what, n, e, want, found)
			}
		}
	}
}

func TestP8_7_Known(t *testing.T) {
	r := rand.New(rand.NewSource(90))
	// Weak parts lie beside strong ones, in any order.
	strong, weak := complete(r, 5), dumbbell(r, 4, 2)
	for _, x := range []struct {
		what         string
		m            crackle.Map
		girth, tough int // 0: none
	}{
		{"nothing", dots(), 0, 0},
		{"an edge", dots(0, 1), 0, 1},
		{"a loop", dots(1, 0), 1, 0},
		{"crossed loops", dots(2, 3, 1, 0), 1, 0},
		{"two edges", dots(2, 3, 0, 1), 2, 2},
		{"a loop beside a ring", beside(ring(r, 5), dots(1, 0)), 1, 2},
		{"a ring beside a loop", beside(dots(1, 0), ring(r, 5)), 1, 2},
		{"an edge beside a ring", beside(ring(r, 5), dots(0, 1)), 5, 1},
		{"a ring beside an edge", beside(dots(0, 1), ring(r, 5)), 5, 1},
		{"a ring", ring(r, 40), 40, 2},
		{"rings", beside(ring(r, 9), ring(r, 7), ring(r, 11)), 7, 2},
		{"a star", star(r, 40), 0, 1},
		{"a bundle", bundle(r, 40, 0, 1), 2, 40},
		{"40 loops", bundle(r, 40, 0, 0), 1, 0},
		{"40 parts with a loop", apart(40, dots(1, 0)), 1, 0},
		{"Petersen's map", petersen(r), 5, 3},
		{"all pairs of 9", complete(r, 9), 3, 8},
		{"5 by 5 points", must(crackle.Grid(5, 5)), 4, 2},
		{"a strong part and a weak one", beside(strong, weak), 3, 2},
		{"a weak part and a strong one", beside(weak, strong), 3, 2},
		{"two parts with a bridge", dumbbell(r, 5, 1), 3, 1},
		{"two parts with 3 edges between them", dumbbell(r, 6, 3), 3, 3},
		{"two parts with 4 edges between them", dumbbell(r, 6, 4), 3, 4},
		{"a bundle of 3 and one of 5", withEnds(r, [2]int{0, 1}, [2]int{0, 1}, [2]int{0, 1}, [2]int{1, 2}, [2]int{1, 2}, [2]int{1, 2}, [2]int{1, 2}, [2]int{1, 2}), 2, 3},
	} {
		for _, y := range []struct {
			what string
			call func(crackle.Map) (int, api.Errno)
			want int
		}{{"Girth", crackle.Girth, x.girth}, {"Tough", crackle.Tough, x.tough}} {
			n, e := y.call(x.m)
			if n != y.want || (e == api.OK) != (y.want > 0) || y.want == 0 && e != api.ErrNone {
				t.Errorf("%s: %s %d, %v, want %d", x.what, y.what, n, e, y.want)
			}
		}
	}
}

func TestP8_7_Errors(t *testing.T) {
	bad := badMaps()
	for _, what := range sorted(bad) {
		if n, e := crackle.Girth(bad[what]); n != 0 || e != api.ErrArg {
			t.Errorf("%s: Girth %d, %v", what, n, e)
		}
		if n, e := crackle.Tough(bad[what]); n != 0 || e != api.ErrArg {
			t.Errorf("%s: Tough %d, %v", what, n, e)
		}
	}
}
