package wax

import "canting/api"

// filled returns what a greatest flow leaves of a valid net.
func filled(n Net) rest {
	return fill(newNetwork(n.N, 0, n.N-1, n.Arcs))
}

// Flow returns a greatest flow.
func Flow(n Net) ([]int, api.Errno) {
	if !isNet(n) {
		return nil, api.ErrArg
	}
	return filled(n).flow(), api.OK
}

// Value returns the value of a greatest flow.
func Value(n Net) (int, api.Errno) {
	if !isNet(n) {
		return 0, api.ErrArg
	}
	return filled(n).value(), api.OK
}

// Check reports whether a flow and a side prove each other.
func Check(n Net, flow []int, side []bool) (bool, api.Errno) {
	if !isNet(n) {
		return false, api.ErrArg
	}
	if len(flow) != len(n.Arcs) || len(side) != n.N {
		return false, api.ErrSize
	}
	ok := isFlow(n, flow) && isSide(side) && surplus(n.Arcs, flow, 0) == cost(n.Arcs, side)
	return ok, api.OK
}

// isFlow reports whether a slice with an element for each arc is a flow.
func isFlow(n Net, flow []int) bool {
	for k, a := range n.Arcs {
		if !isBetween(flow[k], 0, a.Cap) {
			return false
		}
	}
	for node := 1; node < n.N-1; node++ {
		if surplus(n.Arcs, flow, node) != 0 {
			return false
		}
	}
	return true
}

// isSide reports whether a slice with an element for each node is a side.
func isSide(side []bool) bool {
	return side[0] && !side[len(side)-1]
}

// Least returns the least minimum side.
func Least(n Net) ([]bool, api.Errno) {
	if !isNet(n) {
		return nil, api.ErrArg
	}
	return filled(n).least(), api.OK
}

// Greatest returns the greatest minimum side.
func Greatest(n Net) ([]bool, api.Errno) {
	if !isNet(n) {
		return nil, api.ErrArg
	}
	return filled(n).greatest(), api.OK
}

// Sides returns all minimum sides.
func Sides(n Net) ([][]bool, api.Errno) {
	if !isNet(n) {
		return nil, api.ErrArg
	}
	if n.N > maxFew {
		return nil, api.ErrSize
	}
	var out [][]bool
	least := filled(n).value()
	for number := range 1 << (n.N - 2) {
		if side := numbered(n.N, number); cost(n.Arcs, side) == least {
			out = append(out, side)
		}
	}
	return out, api.OK
}

// numbered returns one of the sides of a net, which are numbered from 0 in order: the node before the sink has bit 0.
func numbered(nodes, number int) []bool {
	side := make([]bool, nodes)
	side[0] = true
	for node := 1; node < nodes-1; node++ {
		side[node] = number>>(nodes-2-node)&1 == 1
	}
	return side
}
