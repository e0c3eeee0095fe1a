package wax

// network has two steps for each arc: step 2k goes along arc k, step 2k + 1 goes back.
type network struct {
	source, sink int
	arcs         []Arc
	steps        [][]int // for each node, the steps from it
}

func newNetwork(nodes, source, sink int, arcs []Arc) network {
	n := network{source, sink, arcs, make([][]int, nodes)}
	for k, a := range arcs {
		n.steps[a.From] = append(n.steps[a.From], 2*k)
		n.steps[a.To] = append(n.steps[a.To], 2*k+1)
	}
	return n
}

// reverse returns the step of the same arc in the other direction.
func reverse(step int) int {
	return step ^ 1
}

// end returns the node to which a step leads.
func (n network) end(step int) int {
	a := n.arcs[step/2]
	if step%2 == 0 {
		return a.To
	}
	return a.From
}

// rest is what a flow leaves of a network.
type rest struct {
	network
	left []int // for each step, how much more can go there
}

// fill returns the rest beside a greatest flow. Of all ways with something left it fills a shortest one each time, so that their number is small whatever the arcs can carry.
func fill(n network) rest {
	r := rest{n, make([]int, 2*len(n.arcs))}
	for k, a := range n.arcs {
		r.left[2*k] = a.Cap
	}
	for r.add() {
	}
	return r
}

// add sends as much as possible along a shortest way from the source to the sink, and reports whether there is one.
func (r rest) add() bool {
	reached, last := r.walk(r.source, func(step int) bool { return r.left[step] > 0 })
	if !reached[r.sink] {
		return false
	}
	var way []int
	for at := r.sink; at != r.source; at = r.end(reverse(last[at])) {
		way = append(way, last[at])
	}
	room := r.left[way[0]]
	for _, step := range way {
		room = min(room, r.left[step])
	}
	for _, step := range way {
		r.left[step] -= room
		r.left[reverse(step)] += room
	}
	return true
}

// walk goes from a node along open steps, to near nodes first. It returns which nodes it has reached and by which steps.
func (n network) walk(from int, isOpen func(step int) bool) (reached []bool, last []int) {
	reached, last = make([]bool, len(n.steps)), make([]int, len(n.steps))
	reached[from] = true
	queue := []int{from}
	for len(queue) > 0 {
		node := queue[0]
		queue = queue[1:]
		for _, step := range n.steps[node] {
			next := n.end(step)
			if isOpen(step) && !reached[next] {
				reached[next], last[next] = true, step
				queue = append(queue, next)
			}
		}
	}
	return reached, last
}

// flow returns how much goes along each arc.
func (r rest) flow() []int {
	flow := make([]int, len(r.arcs))
	for k := range flow {
		flow[k] = r.left[2*k+1]
	}
	return flow
}

// value returns how much comes from the source.
func (r rest) value() int {
	return surplus(r.arcs, r.flow(), r.source)
}

// least returns the nodes to which more could come from the source: after a greatest flow, those on the source's side of all minimum cuts.
func (r rest) least() []bool {
	side, _ := r.walk(r.source, func(step int) bool { return r.left[step] > 0 })
	return side
}

// greatest returns the nodes from which no more could come to the sink: after a greatest flow, those on the source's side of at least one minimum cut.
func (r rest) greatest() []bool {
	side, _ := r.walk(r.sink, func(step int) bool { return r.left[reverse(step)] > 0 })
	for node, loses := range side {
		side[node] = !loses
	}
	return side
}

// surplus returns how much more goes from a node than to it.
func surplus(arcs []Arc, flow []int, node int) int {
	sum := 0
	for k, a := range arcs {
		if a.From == node {
			sum += flow[k]
		}
		if a.To == node {
			sum -= flow[k]
		}
	}
	return sum
}

// cost returns what the arcs that leave a side can carry.
func cost(arcs []Arc, side []bool) int {
	sum := 0
	for _, a := range arcs {
		if side[a.From] && !side[a.To] {
			sum += a.Cap
		}
	}
	return sum
}
