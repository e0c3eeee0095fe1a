package wax_test

import (
	"fmt"
	"maps"
	"math"
	"math/rand"
	"slices"

	"canting/api"
	"canting/wax"
)

// The tests compare package wax with lists of all sides, sets and labellings, with labellings that are found row by row, and with the definitions of the chapter, and only through the exported functions.

// must returns the result of a call that has to succeed.
func must[T any](x T, e api.Errno) T {
	if e != api.OK {
		panic(e)
	}
	return x
}

func sorted[T any](m map[string]T) []string {
	return slices.Sorted(maps.Keys(m))
}

// net reads arcs as triples of numbers.
func net(n int, arcs ...[3]int) wax.Net {
	out := wax.Net{N: n}
	for _, a := range arcs {
		out.Arcs = append(out.Arcs, wax.Arc{From: a[0], To: a[1], Cap: a[2]})
	}
	return out
}

// isFlow follows the definition.
func isFlow(n wax.Net, flow []int) bool {
	in, out := make([]int, n.N), make([]int, n.N)
	for k, a := range n.Arcs {
		if flow[k] < 0 || flow[k] > a.Cap {
			return false
		}
		out[a.From] += flow[k]
		in[a.To] += flow[k]
	}
	return slices.Equal(in[1:n.N-1], out[1:n.N-1])
}

// worth returns the value of a flow.
func worth(n wax.Net, flow []int) int {
	sum := 0
	for k, a := range n.Arcs {
		switch {
		case a.From == 0:
			sum += flow[k]
		case a.To == 0:
			sum -= flow[k]
		}
	}
	return sum
}

func isSide(n wax.Net, side []bool) bool {
	return len(side) == n.N && side[0] && !side[n.N-1]
}

// costOf returns the cost of a side.
func costOf(n wax.Net, side []bool) int {
	sum := 0
	for _, a := range n.Arcs {
		if side[a.From] && !side[a.To] {
			sum += a.Cap
		}
	}
	return sum
}

// bools returns all slices of n bools, in order.
func bools(n int) [][]bool {
	all := [][]bool{{}}
	for range n {
		var longer [][]bool
		for _, l := range all {
			longer = append(longer, append(slices.Clone(l), false), append(slices.Clone(l), true))
		}
		all = longer
	}
	return all
}

// minimumSides returns all sides with the least cost, and this cost.
func minimumSides(n wax.Net) (sides [][]bool, least int) {
	least = math.MaxInt
	for _, inner := range bools(n.N - 2) {
		side := slices.Concat([]bool{true}, inner, []bool{false})
		c := costOf(n, side)
		if c < least {
			sides, least = nil, c
		}
		if c == least {
			sides = append(sides, side)
		}
	}
	return sides, least
}

// meet returns what is true in both slices.
func meet(a, b []bool) []bool {
	out := slices.Clone(a)
	for i := range out {
		out[i] = a[i] && b[i]
	}
	return out
}

// join returns what is true in at least one of two slices.
func join(a, b []bool) []bool {
	out := slices.Clone(a)
	for i := range out {
		out[i] = a[i] || b[i]
	}
	return out
}

// isWithin reports whether b has all that a has.
func isWithin(a, b []bool) bool {
	return slices.Equal(meet(a, b), a)
}

func count(l []bool) int {
	sum := 0
	for _, x := range l {
		if x {
			sum++
		}
	}
	return sum
}

func bits(l []bool) string {
	s := ""
	for _, x := range l {
		s += map[bool]string{false: "0", true: "1"}[x]
	}
	return s
}

// randomNet has arcs of any directions whose Caps are at most most.
func randomNet(r *rand.Rand, nodes, arcs, most int) wax.Net {
	n := wax.Net{N: nodes}
	for range arcs {
		u := r.Intn(nodes)
		n.Arcs = append(n.Arcs, wax.Arc{From: u, To: (u + 1 + r.Intn(nodes-1)) % nodes, Cap: r.Intn(most + 1)})
	}
	return n
}

// layeredNet leads from layer to layer, so that much flows far; some arcs lead back.
func layeredNet(r *rand.Rand, layers, width, arcs, most int) wax.Net {
	n := wax.Net{N: layers*width + 2}
	for u := 1; u <= width; u++ {
		n.Arcs = append(n.Arcs, wax.Arc{From: 0, To: u, Cap: most}, wax.Arc{From: n.N - 1 - u, To: n.N - 1, Cap: most})
	}
	for len(n.Arcs) < arcs {
		layer := r.Intn(layers - 1)
		a := wax.Arc{From: 1 + layer*width + r.Intn(width), To: 1 + (layer+1)*width + r.Intn(width), Cap: r.Intn(most + 1)}
		if r.Intn(6) == 0 {
			a.From, a.To = a.To, a.From
		}
		n.Arcs = append(n.Arcs, a)
	}
	return n
}

// line has one arc after another, all with the same Cap.
func line(nodes, size int) wax.Net {
	n := wax.Net{N: nodes}
	for u := range nodes - 1 {
		n.Arcs = append(n.Arcs, wax.Arc{From: u, To: u + 1, Cap: size})
	}
	return n
}

// plainNets are small ones that need care.
func plainNets() []wax.Net {
	const most = 1_000_000
	many := wax.Net{N: 2, Arcs: slices.Repeat([]wax.Arc{{From: 0, To: 1, Cap: most}}, api.MaxArcs)}
	return []wax.Net{
		net(3, [3]int{0, 1, 2}, [3]int{1, 2, 2}),
		net(2),
		net(12),
		net(2, [3]int{0, 1, 0}),
		net(2, [3]int{0, 1, 5}),
		net(2, [3]int{1, 0, 5}),
		net(2, [3]int{0, 1, 5}, [3]int{1, 0, 7}, [3]int{0, 1, most}),
		many,
		net(3, [3]int{0, 1, 2}),
		net(3, [3]int{1, 2, 2}),
		net(3, [3]int{0, 1, 2}, [3]int{1, 0, 2}, [3]int{2, 1, 4}),
		net(3, [3]int{0, 1, 3}, [3]int{0, 1, 3}, [3]int{1, 2, 5}, [3]int{1, 2, 0}),
		net(3, [3]int{1, 0, 9}, [3]int{0, 1, 3}, [3]int{1, 2, 3}, [3]int{2, 1, 9}, [3]int{2, 0, 9}),
		// A flow that goes across must be taken back.
		net(4, [3]int{0, 1, most}, [3]int{0, 2, most}, [3]int{1, 2, 1}, [3]int{1, 3, most}, [3]int{2, 3, most}),
		net(6, [3]int{0, 1, 1}, [3]int{0, 2, 1}, [3]int{1, 3, 1}, [3]int{1, 4, 1}, [3]int{2, 3, 1}, [3]int{3, 5, 1}, [3]int{4, 5, 1}),
		net(8, [3]int{0, 1, 1}, [3]int{1, 2, 1}, [3]int{2, 7, 1}, [3]int{0, 3, 1}, [3]int{3, 2, 1}, [3]int{1, 4, 1}, [3]int{4, 5, 1}, [3]int{5, 7, 1}),
		// Arcs that go round, and nodes that nothing reaches.
		net(5, [3]int{1, 2, 4}, [3]int{2, 3, 4}, [3]int{3, 1, 4}),
		net(5, [3]int{0, 1, 4}, [3]int{1, 2, 4}, [3]int{2, 1, 4}, [3]int{3, 4, 1}),
		net(12, [3]int{0, 11, 3}, [3]int{3, 4, 1}, [3]int{4, 3, 1}),
		line(12, 7),
		line(12, 0),
	}
}

// smallNets have so few nodes that all sides can be listed.
func smallNets() []wax.Net {
	l := plainNets()
	r := rand.New(rand.NewSource(71))
	for k := range 400 {
		nodes := 2 + k%7
		l = append(l, randomNet(r, nodes, r.Intn(4*nodes), []int{1, 2, 3, 9, 1_000_000}[k/7%5]))
	}
	for k := range 60 {
		l = append(l, layeredNet(r, 2+k%3, 2, 8+k%16, []int{1, 2, 9, 1_000_000}[k%4]))
	}
	for range 4 {
		l = append(l, randomNet(r, 12, 60, 3), layeredNet(r, 2, 5, 40, 4))
	}
	return l
}

// nets are the small ones and larger ones.
func nets() []wax.Net {
	l := append(smallNets(), line(40, 3), line(40, 1_000_000), net(13), net(40))
	r := rand.New(rand.NewSource(72))
	for k := range 40 {
		most := []int{1, 3, 40, 1_000_000}[k%4]
		l = append(l, randomNet(r, 13+r.Intn(28), 158, most), randomNet(r, 40, 40+r.Intn(60), most), layeredNet(r, 4+k%9, 3, 158, most))
	}
	return append(l, randomNet(r, 40, 160, 1_000_000), layeredNet(r, 19, 2, 160, 1_000_000))
}

// badNets are no nets, by what is wrong with them.
func badNets() map[string]wax.Net {
	l := map[string]wax.Net{
		"nothing":           {},
		"one node":          net(1),
		"41 nodes":          net(41),
		"very many nodes":   net(math.MaxInt),
		"few nodes":         net(-1),
		"very few nodes":    net(math.MinInt),
		"161 arcs":          {N: 3, Arcs: slices.Repeat([]wax.Arc{{From: 0, To: 1, Cap: 1}}, api.MaxArcs+1)},
		"very many arcs":    {N: 3, Arcs: make([]wax.Arc, 1_000_000)},
		"a loop":            net(3, [3]int{1, 1, 1}),
		"an empty arc":      {N: 3, Arcs: make([]wax.Arc, 1)},
		"a bad last arc":    net(3, [3]int{0, 1, 1}, [3]int{1, 2, 1}, [3]int{1, 2, -1}),
		"arcs without N":    {Arcs: []wax.Arc{{From: 0, To: 1, Cap: 1}}},
		"a loop of no node": net(3, [3]int{3, 3, 1}),
	}
	for _, bad := range []int{-1, 3, math.MinInt, math.MaxInt} {
		l[fmt.Sprintf("from %d", bad)] = net(3, [3]int{bad, 1, 1})
		l[fmt.Sprintf("to %d", bad)] = net(3, [3]int{1, bad, 1})
	}
	for _, bad := range []int{-1, 1_000_001, math.MinInt, math.MaxInt} {
		l[fmt.Sprintf("Cap %d", bad)] = net(3, [3]int{0, 1, bad})
	}
	return l
}

// webs are small enough for lists of all sets of nodes.
func webs() []wax.Net {
	l := plainNets()
	r := rand.New(rand.NewSource(73))
	for k := range 300 {
		nodes := 2 + k%7
		l = append(l, randomNet(r, nodes, r.Intn(4*nodes), []int{1, 2, 5, 30, 1_000_000}[k/7%5]))
	}
	for k := range 12 {
		l = append(l, randomNet(r, 9+k%4, 8+r.Intn(40), []int{2, 9, 1_000_000}[k/4]))
	}
	return append(l, randomNet(r, 12, 160, 1_000_000), randomNet(r, 12, 14, 5))
}

// cuts returns the cuts of all pairs of nodes, from all sets of nodes.
func cuts(w wax.Net) [][]int {
	l := make([][]int, w.N)
	for u := range l {
		l[u] = slices.Repeat([]int{math.MaxInt}, w.N)
	}
	for _, set := range bools(w.N) {
		sum := 0
		for _, a := range w.Arcs {
			if set[a.From] != set[a.To] {
				sum += a.Cap
			}
		}
		for u := range w.N {
			for v := range w.N {
				if set[u] && !set[v] {
					l[u][v] = min(l[u][v], sum)
				}
			}
		}
	}
	return l
}
