package crackle

import (
	"slices"

	"canting/api"
)

// maxListed is the number of edges up to which all cycles and bonds are listed.
const maxListed = 12

// Cycles returns all cycles.
func Cycles(m Map) ([]int, api.Errno) {
	return sets(m, graph.isCycle)
}

// Bonds returns all bonds.
func Bonds(m Map) ([]int, api.Errno) {
	return sets(m, graph.isBond)
}

// sets returns all sets of edges that meet a condition.
func sets(m Map, condition func(g graph, set int) bool) ([]int, api.Errno) {
	if !Valid(m) {
		return nil, api.ErrArg
	}
	if m.edges() > maxListed {
		return nil, api.ErrSize
	}
	g := graphOf(m)
	var out []int
	for set := range 1 << m.edges() {
		if condition(g, set) {
			out = append(out, set)
		}
	}
	return out, api.OK
}

func (g graph) inside(set int) []int {
	return g.chosen(func(e int) bool { return set>>e&1 == 1 })
}

func (g graph) outside(set int) []int {
	return g.inside(^set)
}

// isCycle reports whether the edges of a set go round once, and meet two by two.
func (g graph) isCycle(set int) bool {
	meeting, joined, closing := make([]int, g.vertices), g.apart(), 0
	for _, e := range g.inside(set) {
		u, v := g.ends(e)
		meeting[u]++
		meeting[v]++
		if !joined.join(u, v) {
			closing++
		}
	}
	return closing == 1 && !slices.ContainsFunc(meeting, func(n int) bool { return n != 0 && n != 2 })
}

// isBond reports whether all edges of a set lead between the same two groups of vertices that the other edges connect. So no fewer of them part anything.
func (g graph) isBond(set int) bool {
	groups, edges := g.connected(g.outside(set)), g.inside(set)
	for _, e := range edges {
		if u, v := g.ends(e); groups[u] == groups[v] {
			return false
		}
	}
	joins := 0
	for _, e := range edges {
		if groups.join(g.ends(e)) {
			joins++
		}
	}
	return joins == 1
}
