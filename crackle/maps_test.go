package crackle_test

import (
	"fmt"
	"math"
	"math/rand"
	"slices"

	"canting/crackle"
)

// These are the maps of the tests.

func dots(next ...int) crackle.Map {
	return crackle.Map{Next: next}
}

// allMaps returns all maps with so many edges.
func allMaps(edges int) []crackle.Map {
	orders := [][]int{nil}
	for range 2 * edges {
		var longer [][]int
		for _, l := range orders {
			for d := range 2 * edges {
				if !slices.Contains(l, d) {
					longer = append(longer, append(slices.Clone(l), d))
				}
			}
		}
		orders = longer
	}
	var out []crackle.Map
	for _, l := range orders {
		out = append(out, dots(l...))
	}
	return out
}

// withStarts returns a map in which each dart starts at the given vertex; the orders around the vertices are drawn.
func withStarts(r *rand.Rand, start []int) crackle.Map {
	at := map[int][]int{}
	for _, d := range r.Perm(len(start)) {
		at[start[d]] = append(at[start[d]], d)
	}
	m := crackle.Map{Next: make([]int, len(start))}
	for _, darts := range at {
		for i, d := range darts {
			m.Next[d] = darts[(i+1)%len(darts)]
		}
	}
	return m
}

// withEnds returns a map with given edges.
func withEnds(r *rand.Rand, pairs ...[2]int) crackle.Map {
	var start []int
	for _, pair := range pairs {
		start = append(start, pair[0], pair[1])
	}
	return withStarts(r, start)
}

// randomGraph connects vertices in any way.
func randomGraph(r *rand.Rand, vertices, edges int) crackle.Map {
	var pairs [][2]int
	for range edges {
		pairs = append(pairs, [2]int{r.Intn(vertices), r.Intn(vertices)})
	}
	return withEnds(r, pairs...)
}

// onePart connects all vertices; there are at least one edge less than vertices.
func onePart(r *rand.Rand, vertices, edges int) crackle.Map {
	var pairs [][2]int
	for v := 1; v < vertices; v++ {
		pairs = append(pairs, [2]int{v, r.Intn(v)})
	}
	for len(pairs) < edges {
		pairs = append(pairs, [2]int{r.Intn(vertices), r.Intn(vertices)})
	}
	return mixed(r, withEnds(r, pairs...))
}

// mixed gives the darts other numbers.
func mixed(r *rand.Rand, m crackle.Map) crackle.Map {
	order := r.Perm(edges(m))
	turned := r.Intn(1 << 30)
	number := func(d int) int { return 2*order[d/2] + (d^turned>>(d/2%30))&1 }
	out := crackle.Map{Next: make([]int, len(m.Next))}
	for d, next := range m.Next {
		out.Next[number(d)] = number(next)
	}
	return out
}

// beside returns the map that has all parts of some.
func beside(l ...crackle.Map) crackle.Map {
	var out crackle.Map
	for _, m := range l {
		before := len(out.Next)
		for _, next := range m.Next {
			out.Next = append(out.Next, before+next)
		}
	}
	return out
}

// planarMap draws a planar map with one part, edge by edge: each new one begins in a corner and ends at a new vertex, or in another corner of the same face.
func planarMap(r *rand.Rand, edges int) crackle.Map {
	m := [2]crackle.Map{dots(0, 1), dots(1, 0)}[r.Intn(2)]
	for len(m.Next) < 2*edges {
		corner, a := r.Intn(len(m.Next)), len(m.Next)
		b := a + 1
		m.Next = append(m.Next, m.Next[corner], b)
		m.Next[corner] = a
		face := around(a, func(d int) int { return m.Next[d^1] })
		if other := face[r.Intn(len(face))] ^ 1; r.Intn(3) > 0 && other != b {
			m.Next[b], m.Next[other] = m.Next[other], b
		}
	}
	return mixed(r, m)
}

func ring(r *rand.Rand, n int) crackle.Map {
	var pairs [][2]int
	for v := range n {
		pairs = append(pairs, [2]int{v, (v + 1) % n})
	}
	return withEnds(r, pairs...)
}

func path(r *rand.Rand, n int) crackle.Map {
	var pairs [][2]int
	for v := range n {
		pairs = append(pairs, [2]int{v, v + 1})
	}
	return withEnds(r, pairs...)
}

func star(r *rand.Rand, n int) crackle.Map {
	var pairs [][2]int
	for v := range n {
		pairs = append(pairs, [2]int{v, n})
	}
	return withEnds(r, pairs...)
}

// bundle has all edges between two vertices; they are one if they have the same number.
func bundle(r *rand.Rand, n, u, v int) crackle.Map {
	return withEnds(r, slices.Repeat([][2]int{{u, v}}, n)...)
}

// complete has an edge between each two vertices.
func complete(r *rand.Rand, n int) crackle.Map {
	var pairs [][2]int
	for v := range n {
		for u := range v {
			pairs = append(pairs, [2]int{u, v})
		}
	}
	return withEnds(r, pairs...)
}

// dumbbell has two complete maps and few edges between them.
func dumbbell(r *rand.Rand, n, between int) crackle.Map {
	var pairs [][2]int
	for v := range n {
		for u := range v {
			pairs = append(pairs, [2]int{u, v}, [2]int{n + u, n + v})
		}
	}
	for k := range between {
		pairs = append(pairs, [2]int{k % n, n + k%n})
	}
	return mixed(r, withEnds(r, pairs...))
}

// petersen has no shorter cycles than of 5 edges.
func petersen(r *rand.Rand) crackle.Map {
	var pairs [][2]int
	for v := range 5 {
		pairs = append(pairs, [2]int{v, (v + 1) % 5}, [2]int{v, v + 5}, [2]int{v + 5, (v+2)%5 + 5})
	}
	return withEnds(r, pairs...)
}

// apart has n parts that are the same.
func apart(n int, m crackle.Map) crackle.Map {
	return beside(slices.Repeat([]crackle.Map{m}, n)...)
}

// smallMaps have at most 12 edges; all maps with at most 3 edges are among them.
func smallMaps() []crackle.Map {
	var l []crackle.Map
	for n := range 4 {
		l = append(l, allMaps(n)...)
	}
	r := rand.New(rand.NewSource(81))
	for w := 1; w <= 3; w++ {
		for h := range 4 - w {
			l = append(l, must(crackle.Grid(w, 1+h)), mixed(r, must(crackle.Grid(w, 1+h))))
		}
	}
	l = append(l, must(crackle.Grid(3, 3)), complete(r, 4), complete(r, 5), dumbbell(r, 3, 1), dumbbell(r, 3, 6))
	for _, n := range []int{4, 12} {
		l = append(l, ring(r, n), path(r, n), star(r, n), bundle(r, n, 0, 1), bundle(r, n, 0, 0), apart(n, dots(0, 1)), apart(n, dots(1, 0)))
	}
	for k := range 150 {
		n := 4 + k%9
		l = append(l, randomGraph(r, 1+r.Intn(n+1), n), onePart(r, 1+r.Intn(n+1), n), planarMap(r, n), dots(r.Perm(2*n)...))
	}
	for k := range 20 {
		l = append(l, mixed(r, beside(planarMap(r, 1+k%5), onePart(r, 3, 3), ring(r, 1+k%4))))
	}
	return l
}

// largeMaps have from 13 to 40 edges.
func largeMaps() []crackle.Map {
	r := rand.New(rand.NewSource(82))
	l := []crackle.Map{petersen(r), complete(r, 9), dumbbell(r, 6, 3), dumbbell(r, 6, 10), dumbbell(r, 5, 20)}
	for w := 1; w <= 5; w++ {
		for h := 1; h <= 5; h++ {
			if m := must(crackle.Grid(w, h)); edges(m) > 12 {
				l = append(l, m, mixed(r, m))
			}
		}
	}
	for _, n := range []int{13, 39, 40} {
		l = append(l, ring(r, n), path(r, n), star(r, n), bundle(r, n, 0, 1), bundle(r, n, 0, 0), apart(n, dots(0, 1)), apart(n, dots(1, 0)))
	}
	for k := range 30 {
		n := 13 + r.Intn(28)
		l = append(l, randomGraph(r, 2+r.Intn(12), n), onePart(r, 2+r.Intn(n), n), onePart(r, 9, n), onePart(r, n-2, n), planarMap(r, n), dots(r.Perm(2*n)...))
		l = append(l, mixed(r, beside(onePart(r, 3+k%4, 14), ring(r, 9), petersen(r))))
	}
	for range 6 {
		l = append(l, planarMap(r, 40), onePart(r, 20, 40), onePart(r, 27, 40), dots(r.Perm(80)...))
	}
	return l
}

func allKinds() []crackle.Map {
	return append(smallMaps(), largeMaps()...)
}

// isOnePart reports whether a map has just one part.
func isOnePart(m crackle.Map) bool {
	return len(different(partOf(m))) == 1
}

// genus follows the definition.
func genus(m crackle.Map) int {
	return (2*len(different(partOf(m))) - len(different(vertexOf(m))) + edges(m) - len(different(faceOf(m)))) / 2
}

// planarMaps are those of genus 0 with one part.
func planarMaps() []crackle.Map {
	var l []crackle.Map
	for _, m := range allKinds() {
		if isOnePart(m) && genus(m) == 0 {
			l = append(l, m)
		}
	}
	return l
}

// badMaps are no maps, by what is wrong with them.
func badMaps() map[string]crackle.Map {
	upTo := func(n int) crackle.Map {
		m := crackle.Map{Next: make([]int, n)}
		for d := range m.Next {
			m.Next[d] = d
		}
		return m
	}
	l := map[string]crackle.Map{
		"one dart":              dots(0),
		"three darts":           dots(0, 1, 2),
		"79 darts":              upTo(79),
		"81 darts":              upTo(81),
		"82 darts":              upTo(82),
		"very many darts":       upTo(1_000_000),
		"a dart twice":          dots(0, 0),
		"the last dart twice":   dots(1, 1),
		"no dart 3":             dots(2, 1, 0, 2),
		"zeros only":            dots(0, 0, 0, 0),
		"an odd number of them": dots(2, 0, 1),
	}
	for _, bad := range []int{-1, 2, 3, math.MinInt, math.MaxInt} {
		l[fmt.Sprintf("dart %d first", bad)] = dots(bad, 0)
		l[fmt.Sprintf("dart %d last", bad)] = dots(0, bad)
	}
	return l
}
