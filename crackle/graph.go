package crackle

import "slices"

// graph has what remains of a map without the orders around its vertices. These are numbered from 0, in the order of their names.
type graph struct {
	vertices int
	start    []int // for each dart, its vertex
}

// graphOf needs a valid map.
func graphOf(m Map) graph {
	g := graph{start: make([]int, len(m.Next))}
	for d, name := range names(m, m.turn) {
		if name == d {
			g.start[d] = g.vertices
			g.vertices++
		} else {
			g.start[d] = g.start[name]
		}
	}
	return g
}

func (g graph) edges() int {
	return len(g.start) / 2
}

// ends returns the vertices of an edge.
func (g graph) ends(e int) (u, v int) {
	return g.start[2*e], g.start[2*e+1]
}

// groups has for each vertex one that stands for all of its group.
type groups []int

// apart returns a group for each vertex.
func (g graph) apart() groups {
	l := make(groups, g.vertices)
	for v := range l {
		l[v] = v
	}
	return l
}

// join makes one group of those of u and v, and reports whether they were two.
func (l groups) join(u, v int) bool {
	old, common := l[u], l[v]
	if old == common {
		return false
	}
	for w := range l {
		if l[w] == old {
			l[w] = common
		}
	}
	return true
}

// connected returns the groups of vertices that edges connect.
func (g graph) connected(edges []int) groups {
	l := g.apart()
	for _, e := range edges {
		l.join(g.ends(e))
	}
	return l
}

// parts returns the groups of the vertices that lie in one part.
func (g graph) parts() groups {
	return g.connected(g.all())
}

// all returns all edges.
func (g graph) all() []int {
	return g.chosen(func(int) bool { return true })
}

// chosen returns the edges that meet a condition.
func (g graph) chosen(condition func(e int) bool) []int {
	var l []int
	for e := range g.edges() {
		if condition(e) {
			l = append(l, e)
		}
	}
	return l
}

// ones returns the weighting in which each edge has the weight 1.
func (g graph) ones() []int {
	return slices.Repeat([]int{1}, g.edges())
}

// ties returns for each two different vertices the sum of the weights of the edges between them.
func (g graph) ties(weight []int) [][]int {
	l := make([][]int, g.vertices)
	for v := range l {
		l[v] = make([]int, g.vertices)
	}
	for e, x := range weight {
		if u, v := g.ends(e); u != v {
			l[u][v] += x
			l[v][u] += x
		}
	}
	return l
}

// balances returns the matrix that makes of a potential, for each vertex, the sum of the conductances of its edges times the differences of the potentials from it to their other ends (Kirchhoff's matrix).
func (g graph) balances(weight []int) [][]int {
	rows := g.ties(weight)
	for v, row := range rows {
		sum := 0
		for u, tie := range row {
			sum += tie
			row[u] = -tie
		}
		rows[v][v] = sum
	}
	return rows
}
