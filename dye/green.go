package dye

import (
	"slices"

	"canting/api"
)

// Idempotents returns the normal forms that do the same when done twice.
func Idempotents(o Overlay) ([]string, api.Errno) {
	m, e := monoidOf(o)
	if e != api.OK {
		return nil, e
	}
	var out []string
	for i, a := range m.acts {
		if a.then(a) == a {
			out = append(out, m.forms[i])
		}
	}
	return out, api.OK
}

// Classes returns Green's classes.
func Classes(o Overlay) (r, l, d []int, e api.Errno) {
	m, e := monoidOf(o)
	if e != api.OK {
		return nil, nil, nil, e
	}
	r, l = mutual(m.right), mutual(m.left())
	return r, l, joined(r, l), api.OK
}

// left returns for each action and step the place of the step and then the action.
func (m *monoid) left() [][]int {
	var out [][]int
	for _, a := range m.acts {
		goals := make([]int, 0, len(m.steps))
		for _, s := range m.steps {
			goals = append(goals, m.place[s.does.then(a)])
		}
		out = append(out, goals)
	}
	return out
}

// mutual returns for each place the lowest one that it leads to and that leads to it.
func mutual(leads [][]int) []int {
	comes := turned(leads)
	lowest := make([]int, len(leads))
	met := make([]bool, len(leads))
	for _, root := range slices.Backward(everyLeft(leads)) {
		if met[root] {
			continue
		}
		// These are Kosaraju's classes: of the places not met the root was left last, so it leads to each of them that leads to it.
		class := leftFrom(comes, root, met, nil)
		first := slices.Min(class)
		for _, i := range class {
			lowest[i] = first
		}
	}
	return lowest
}

// turned returns for each place those that lead to it.
func turned(leads [][]int) [][]int {
	comes := make([][]int, len(leads))
	for i, goals := range leads {
		for _, to := range goals {
			comes[to] = append(comes[to], i)
		}
	}
	return comes
}

// everyLeft returns all places in the order in which a walk in depth leaves them.
func everyLeft(leads [][]int) []int {
	var out []int
	met := make([]bool, len(leads))
	for i := range leads {
		out = leftFrom(leads, i, met, out)
	}
	return out
}

// leftFrom appends the places not met that a place leads to, itself too, in the order in which a walk in depth leaves them.
func leftFrom(leads [][]int, i int, met []bool, out []int) []int {
	if met[i] {
		return out
	}
	met[i] = true
	for _, to := range leads[i] {
		out = leftFrom(leads, to, met, out)
	}
	return append(out, i)
}

// joined returns for each place the lowest one to which a chain leads whose neighbours are in one class of one of the two kinds. Classes are given by their lowest places.
func joined(r, l []int) []int {
	lower := make([]int, len(r)) // a place of the same chain, itself only if it is the lowest one known
	lowest := func(i int) int {
		for lower[i] != i {
			i = lower[i]
		}
		return i
	}
	for i := range lower {
		lower[i] = i
		for _, first := range []int{r[i], l[i]} {
			a, b := lowest(i), lowest(first)
			lower[max(a, b)] = min(a, b)
		}
	}
	for i := range lower {
		lower[i] = lower[lower[i]]
	}
	return lower
}
