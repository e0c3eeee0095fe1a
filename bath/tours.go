package bath

import (
	"cmp"
	"slices"

	"canting/api"
)

const (
	// minNodes and maxNodes are how many nodes a distance matrix may have.
	minNodes, maxNodes = 3, 9
	// maxShift is how far pi may change a distance to a node.
	maxShift = 10000
)

// areDistances reports whether d is a distance matrix.
func areDistances(d [][]int) bool {
	n := len(d)
	if n < minNodes || n > maxNodes || !areCosts(d, n) {
		return false
	}
	for i, row := range d {
		for j, x := range row {
			if x != d[j][i] || i == j && x != 0 {
				return false
			}
		}
	}
	return true
}

// Tour returns the first shortest tour.
func Tour(d [][]int) ([]int, api.Errno) {
	if !areDistances(d) {
		return nil, api.ErrArg
	}
	// A tour is an order of a plan in which 0 comes before all others, and the way back to 0 is a cost of the last one.
	p := Plan{Start: make([]int, len(d)), Change: d}
	for i := 1; i < len(d); i++ {
		p.Before = append(p.Before, [2]int{0, i})
	}
	return courseOf(p, d[0]).best(), api.OK
}

// Tree returns the bound of a one-tree.
func Tree(d [][]int, pi []int) (int, api.Errno) {
	if !areDistances(d) {
		return 0, api.ErrArg
	}
	if len(pi) != len(d) {
		return 0, api.ErrSize
	}
	if !areBetween(pi, -maxShift, maxShift) {
		return 0, api.ErrArg
	}
	changed := func(i, j int) int { return d[i][j] + pi[i] + pi[j] }
	var others, toFirst []int
	for i := 1; i < len(d); i++ {
		others = append(others, i)
		toFirst = append(toFirst, changed(0, i))
	}
	slices.Sort(toFirst)
	length := treeLength(others, changed) + toFirst[0] + toFirst[1]
	for _, x := range pi {
		length -= 2 * x
	}
	return length, api.OK
}

// treeLength returns the length of a shortest tree that connects some nodes. It grows the tree of the first node: the node that is nearest to it is always the next one.
func treeLength(nodes []int, distance func(i, j int) int) int {
	left := slices.Clone(nodes[1:])
	near := map[int]int{} // how far each node that is left is from the tree
	for _, i := range left {
		near[i] = distance(nodes[0], i)
	}
	length := 0
	for len(left) > 0 {
		next := slices.MinFunc(left, func(i, j int) int { return cmp.Compare(near[i], near[j]) })
		length += near[next]
		left = slices.DeleteFunc(left, func(i int) bool { return i == next })
		for _, i := range left {
			near[i] = min(near[i], distance(next, i))
		}
	}
	return length
}
