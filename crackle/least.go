package crackle

import (
	"slices"

	"canting/api"
)

// Girth returns the length of a shortest cycle.
func Girth(m Map) (int, api.Errno) {
	if !Valid(m) {
		return 0, api.ErrArg
	}
	g := graphOf(m)
	least, found := 0, false
	for e := range m.edges() {
		if length, ok := g.detour(e); ok && (!found || length+1 < least) {
			least, found = length+1, true
		}
	}
	if !found {
		return 0, api.ErrNone
	}
	return least, api.OK
}

// detour returns the least number of other edges that lead from the one end of an edge to the other, if any do.
func (g graph) detour(e int) (length int, ok bool) {
	from, to := g.ends(e)
	others := g.chosen(func(other int) bool { return other != e })
	reached := make([]bool, g.vertices)
	for newest := []int{from}; len(newest) > 0; length++ {
		for _, v := range newest {
			reached[v] = true
		}
		if reached[to] {
			return length, true
		}
		newest = g.beyond(reached, others)
	}
	return 0, false
}

// beyond returns the vertices that are not reached, but are ends of edges that begin where it is.
func (g graph) beyond(reached []bool, edges []int) []int {
	var l []int
	for _, e := range edges {
		u, v := g.ends(e)
		if reached[u] && !reached[v] {
			l = append(l, v)
		}
		if reached[v] && !reached[u] {
			l = append(l, u)
		}
	}
	return l
}

// Tough returns the size of a least bond.
func Tough(m Map) (int, api.Errno) {
	if !Valid(m) {
		return 0, api.ErrArg
	}
	g := graphOf(m)
	members := make([][]int, g.vertices)
	for v, part := range g.parts() {
		members[part] = append(members[part], v)
	}
	least, found := 0, false
	for _, part := range members {
		if len(part) < 2 {
			continue
		}
		if size := leastCut(g.ties(g.ones()), part); !found || size < least {
			least, found = size, true
		}
	}
	if !found {
		return 0, api.ErrNone
	}
	return least, api.OK
}

// leastCut returns the least sum of ties between two sides of a part that has at least two vertices, and changes the ties (Stoer and Wagner). Where each vertex in an order has the greatest ties to those before it, the last two cannot be parted for less than the ties of the last one; all else that parts the vertices leaves these two together, so they become one.
func leastCut(ties [][]int, part []int) int {
	order, least := tiedOrder(ties, part)
	for len(order) > 2 {
		n := len(order)
		merge(ties, order[n-2], order[n-1])
		next, sum := tiedOrder(ties, order[:n-1])
		order, least = next, min(least, sum)
	}
	return least
}

// tiedOrder returns the vertices in an order in which each one has the greatest ties to those before it, and how great those of the last one are.
func tiedOrder(ties [][]int, part []int) (order []int, last int) {
	held := make([]int, len(ties))
	rest := slices.Clone(part)
	for len(rest) > 0 {
		place := 0
		for i, v := range rest {
			if held[v] > held[rest[place]] {
				place = i
			}
		}
		v := rest[place]
		rest = slices.Delete(rest, place, place+1)
		order, last = append(order, v), held[v]
		for _, u := range rest {
			held[u] += ties[v][u]
		}
	}
	return order, last
}

// merge adds the ties of v to those of u.
func merge(ties [][]int, u, v int) {
	for w := range ties {
		ties[u][w] += ties[v][w]
		ties[w][u] = ties[u][w]
	}
}
