package mask

import (
	"slices"

	"canting/api"
)

// free is the element of a cube for a variable of any value.
const free = 2

func freeCube(n int) []int {
	return slices.Repeat([]int{free}, n)
}

// Paths returns the cubes of the ways to true.
func Paths(f Mask) ([][]int, api.Errno) {
	if !Valid(f) {
		return nil, api.ErrArg
	}
	var out [][]int
	cube := freeCube(f.Vars)
	var walk func(place int)
	walk = func(place int) {
		if place == truePlace {
			out = append(out, slices.Clone(cube))
		}
		if place < firstNode {
			return
		}
		node := f.Nodes[place-firstNode]
		for element, next := range [...]int{node.Low, node.High} {
			cube[node.Var] = element
			walk(next)
		}
		cube[node.Var] = free
	}
	walk(f.Root)
	return out, api.OK
}

// Least returns the widest cube within f.
func Least(f Mask) ([]int, api.Errno) {
	if !Valid(f) {
		return nil, api.ErrArg
	}
	if f.Root == falsePlace {
		return nil, api.ErrNone
	}
	d := newDiagram(f.Vars)
	search := widest{d, map[int]step{}}
	return search.cube(d.add(f)), api.OK
}

// step begins the widest cube within a function: the element for the variable that its place asks, the place of what is left to be found within, and how many elements from this one on are not free.
type step struct{ element, next, fixed int }

type widest struct {
	*diagram
	steps map[int]step
}

// first returns the step from a place. Variables that are not asked are free in every widest cube.
func (w widest) first(place int) step {
	switch place {
	case falsePlace:
		return step{fixed: w.vars + 1}
	case truePlace:
		return step{}
	}
	best, known := w.steps[place]
	if !known {
		node := w.nodes[place-firstNode]
		best = step{0, node.Low, w.first(node.Low).fixed + 1}
		if n := w.first(node.High).fixed + 1; n < best.fixed {
			best = step{1, node.High, n}
		}
		both := w.and(node.Low, node.High)
		if n := w.first(both).fixed; n < best.fixed {
			best = step{free, both, n}
		}
		w.steps[place] = best
	}
	return best
}

// cube returns the widest cube, of several the first one.
func (w widest) cube(place int) []int {
	cube := freeCube(w.vars)
	for place != truePlace {
		s := w.first(place)
		cube[w.level(place)] = s.element
		place = s.next
	}
	return cube
}
