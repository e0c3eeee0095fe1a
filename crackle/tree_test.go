package crackle_test

import (
	"math"
	"math/rand"
	"slices"
	"testing"

	"canting/api"
	"canting/crackle"
)

// forestOf follows the definition.
func forestOf(m crackle.Map, weight []int) []bool {
	taken, set, list := make([]bool, edges(m)), 0, ends(m)
	for x := 1; x <= 1000; x++ {
		for e, pair := range list {
			if weight[e] == x && !leads(m, set, pair[0], pair[1]) {
				taken[e] = true
				set |= 1 << e
			}
		}
	}
	return taken
}

// leads reports whether edges of a set lead from one vertex to another.
func leads(m crackle.Map, set, from, to int) bool {
	met := []int{from}
	list := ends(m)
	for i := 0; i < len(met); i++ {
		for e, pair := range list {
			for k := range pair {
				if set>>e&1 == 1 && pair[k] == met[i] && !slices.Contains(met, pair[1-k]) {
					met = append(met, pair[1-k])
				}
			}
		}
	}
	return slices.Contains(met, to)
}

func TestP8_5_Forest(t *testing.T) {
	r := rand.New(rand.NewSource(85))
	for i, m := range allKinds() {
		weight := randomWeights(r, m, []int{1, 2, 4, 1000}[i%4])
		want := forestOf(m, weight)
		if got, e := crackle.Forest(m, weight); !slices.Equal(got, want) || e != api.OK {
			t.Errorf("%v: Forest(%v) %v, %v, want %v", m, weight, got, e, want)
		}
	}
}

// TestP8_5_Lightest checks that no set of edges without a cycle that connects as much has less weight.
func TestP8_5_Lightest(t *testing.T) {
	r := rand.New(rand.NewSource(86))
	for _, m := range smallMaps()[600:900] {
		weight := randomWeights(r, m, 9)
		if !isOnePart(m) {
			continue
		}
		got, sum := 0, 0
		for e, taken := range must(crackle.Forest(m, weight)) {
			if taken {
				got |= 1 << e
				sum += weight[e]
			}
		}
		if !isConnected(m, got) {
			t.Errorf("%v: Forest(%v) %b does not connect", m, weight, got)
		}
		for set := range 1 << edges(m) {
			other := 0
			for e, x := range weight {
				other += x * (set >> e & 1)
			}
			if other < sum && isConnected(m, set) {
				t.Errorf("%v: Forest(%v) %b, but %b has less weight", m, weight, got, set)
			}
		}
	}
}

func TestP8_5_ForestKnown(t *testing.T) {
	square := must(crackle.Grid(2, 2))
	for _, x := range []struct {
		m      crackle.Map
		weight []int
		want   []bool
	}{
		{dots(), nil, nil},
		{dots(0, 1), []int{1000}, []bool{true}},
		{dots(1, 0), []int{1}, []bool{false}},
		{square, []int{1, 1, 1, 1}, []bool{true, true, true, false}},
		{square, []int{2, 1, 1, 1}, []bool{false, true, true, true}},
		{square, []int{5, 5, 1000, 999}, []bool{true, true, false, true}},
		{square, []int{1000, 1, 999, 1000}, []bool{true, true, true, false}},
		{dots(2, 3, 0, 1), []int{2, 1}, []bool{false, true}},
		{dots(2, 3, 0, 1), []int{2, 2}, []bool{true, false}},
		{dots(0, 1, 3, 2, 5, 4), []int{3, 2, 1}, []bool{true, false, false}},
	} {
		if got, e := crackle.Forest(x.m, x.weight); !slices.Equal(got, x.want) || e != api.OK {
			t.Errorf("%v: Forest(%v) %v, %v, want %v", x.m, x.weight, got, e, x.want)
		}
	}
}

// badWeights are no weightings of a map with three edges.
func badWeights() [][]int {
	l := [][]int{nil, {}, {1}, {1, 1}, {1, 1, 1, 1}, make([]int, 3), make([]int, 1_000_000), slices.Repeat([]int{1}, 6)}
	for _, bad := range []int{0, -1, 1001, math.MinInt, math.MaxInt} {
		l = append(l, []int{bad, 1, 1}, []int{1, bad, 1}, []int{1, 1, bad})
	}
	return l
}

func TestP8_5_Errors(t *testing.T) {
	bad := badMaps()
	for _, what := range sorted(bad) {
		m := bad[what]
		for _, weight := range [][]int{nil, {1}, ones(m)} {
			if l, e := crackle.Forest(m, weight); len(l) != 0 || e != api.ErrArg {
				t.Errorf("%s: Forest %v, %v", what, l, e)
			}
		}
		if n, e := crackle.Trees(m); n != 0 || e != api.ErrArg {
			t.Errorf("%s: Trees %d, %v", what, n, e)
		}
	}
	for _, weight := range badWeights() {
		if l, e := crackle.Forest(dots(2, 3, 4, 5, 0, 1), weight); len(l) != 0 || e != api.ErrArg {
			t.Errorf("Forest(%v): %v, %v", weight[:min(len(weight), 9)], l, e)
		}
	}
	if l, e := crackle.Forest(dots(), []int{1}); len(l) != 0 || e != api.ErrArg {
		t.Errorf("Forest without edges: %v, %v", l, e)
	}
}

func TestP8_5_Trees(t *testing.T) {
	for _, m := range allKinds() {
		n, e := crackle.Trees(m)
		if !isOnePart(m) {
			if n != 0 || e != api.ErrState {
				t.Errorf("%v: Trees %d, %v, but it has not one part", m, n, e)
			}
			continue
		}
		if want := treesOf(m); n != want || e != api.OK {
			t.Errorf("%v: Trees %d, %v, want %d", m, n, e, want)
		}
	}
}

// TestP8_5_AllTrees compares with a list of all sets of edges.
func TestP8_5_AllTrees(t *testing.T) {
	for _, m := range smallMaps()[500:] {
		if !isOnePart(m) || edges(m) > 9 {
			continue
		}
		cycles, want := cyclesOf(m, 12), 0
		for set := range 1 << edges(m) {
			if isConnected(m, set) && !slices.ContainsFunc(cycles, func(cycle int) bool { return cycle&^set == 0 }) {
				want++
			}
		}
		if n, e := crackle.Trees(m); n != want || e != api.OK {
			t.Errorf("%v: Trees %d, %v, want %d", m, n, e, want)
		}
	}
}

func TestP8_5_TreesKnown(t *testing.T) {
	r := rand.New(rand.NewSource(87))
	for _, x := range []struct {
		what string
		m    crackle.Map
		want int
		e    api.Errno
	}{
		{"nothing", dots(), 0, api.ErrState},
		{"an edge", dots(0, 1), 1, api.OK},
		{"a loop", dots(1, 0), 1, api.OK},
		{"crossed loops", dots(2, 3, 1, 0), 1, api.OK},
		{"two edges", dots(0, 1, 2, 3), 0, api.ErrState},
		{"an edge and a loop", dots(0, 1, 3, 2), 0, api.ErrState},
		{"40 edges", apart(40, dots(0, 1)), 0, api.ErrState},
		{"3 by 3 points", must(crackle.Grid(3, 3)), 192, api.OK},
		{"4 by 4 points", must(crackle.Grid(4, 4)), 100_352, api.OK},
		{"5 by 5 points", must(crackle.Grid(5, 5)), 557_568_000, api.OK},
		{"Petersen's map", petersen(r), 2000, api.OK},
		{"all pairs of 9", complete(r, 9), 4_782_969, api.OK},
		{"a ring", ring(r, 40), 40, api.OK},
		{"a path", path(r, 40), 1, api.OK},
		{"a star", star(r, 40), 1, api.OK},
		{"a bundle", bundle(r, 40, 0, 1), 40, api.OK},
		{"40 loops", bundle(r, 40, 0, 0), 1, api.OK},
		{"a ring of pairs", pairs(ring(r, 20)), 20 << 19, api.OK},
		{"a path of pairs", pairs(path(r, 20)), 1 << 20, api.OK},
	} {
		if n, e := crackle.Trees(x.m); n != x.want || e != x.e {
			t.Errorf("%s: Trees %d, %v, want %d, %v", x.what, n, e, x.want, x.e)
		}
	}
}

// pairs doubles each edge.
func pairs(m crackle.Map) crackle.Map {
	l := ends(m)
	return withEnds(rand.New(rand.NewSource(88)), append(l, l...)...)
}
