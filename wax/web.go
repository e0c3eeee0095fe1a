package wax

import "canting/api"

// parted returns what a greatest flow between two nodes leaves of a web.
func parted(w Net, u, v int) rest {
	var both []Arc
	for _, a := range w.Arcs {
		both = append(both, a, Arc{From: a.To, To: a.From, Cap: a.Cap})
	}
	return fill(newNetwork(w.N, u, v, both))
}

// Cut returns the cut of two nodes.
func Cut(w Net, u, v int) (int, api.Errno) {
	if !isWeb(w) || !isBetween(u, 0, w.N-1) || !isBetween(v, 0, w.N-1) || u == v {
		return 0, api.ErrArg
	}
	return parted(w, u, v).value(), api.OK
}

// Tree returns a tree that has the cuts of all pairs. It parts each node from its parent in turn; later nodes with the same parent that come to lie on the node's side of the cut become its children.
func Tree(w Net) (parent, weight []int, e api.Errno) {
	if !isWeb(w) {
		return nil, nil, api.ErrArg
	}
	parent, weight = make([]int, w.N), make([]int, w.N)
	for node := 1; node < w.N; node++ {
		r := parted(w, node, parent[node])
		weight[node] = r.value()
		side := r.least()
		for later := node + 1; later < w.N; later++ {
			if side[later] && parent[later] == parent[node] {
				parent[later] = node
			}
		}
	}
	parent[0] = -1
	return parent, weight, api.OK
}
