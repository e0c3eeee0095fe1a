package crackle

import (
	"slices"

	"canting/api"
	"canting/exact"
)

const (
	// maxFree is how many vertices may have a potential that is to be found: package exact solves no larger systems.
	maxFree = api.MaxSide
	// maxPotentialWords is how many words the parts of a potential may have for its energy.
	maxPotentialWords = 2
	// maxEnergyVertices is how many vertices a map may have for an energy.
	maxEnergyVertices = 41
)

// number returns the Rat of an int.
func number(n int) api.Rat {
	return api.Rat{Num: exact.FromInt(n), Den: exact.FromInt(1)}
}

// copyOf returns a Rat with memory of its own.
func copyOf(f api.Rat) api.Rat {
	f.Num.Words, f.Den.Words = slices.Clone(f.Num.Words), slices.Clone(f.Den.Words)
	return f
}

// valuesOf returns the values of the vertices that are fixed, if the list is valid.
func (g graph) valuesOf(fixed []Fixed) (values map[int]int, ok bool) {
	values = map[int]int{}
	for _, f := range fixed {
		if !isBetween(f.Dart, 0, len(g.start)-1) || !isBetween(f.Value, -maxValue, maxValue) {
			return nil, false
		}
		v := g.start[f.Dart]
		if known, met := values[v]; met && known != f.Value {
			return nil, false
		}
		values[v] = f.Value
	}
	return values, true
}

// isDetermined reports whether each part has a vertex with a value.
func (g graph) isDetermined(values map[int]int) bool {
	parts := g.parts()
	determined := make([]bool, g.vertices)
	for v := range values {
		determined[parts[v]] = true
	}
	for _, part := range parts {
		if !determined[part] {
			return false
		}
	}
	return true
}

// seep returns the potential of each vertex: those that have values have these, and from each other one as much flows as is poured there.
func (g graph) seep(weight []int, values, poured map[int]int) []api.Rat {
	potential := make([]api.Rat, g.vertices)
	var free []int
	for v := range potential {
		if value, ok := values[v]; ok {
			potential[v] = number(value)
		} else {
			free = append(free, v)
		}
	}
	balances := g.balances(weight)
	var rows [][]api.Rat
	var targets []api.Rat
	for _, v := range free {
		var row []api.Rat
		target := poured[v]
		for u, x := range balances[v] {
			if value, ok := values[u]; ok {
				target -= x * value
			} else {
				row = append(row, number(x))
			}
		}
		rows, targets = append(rows, row), append(targets, number(target))
	}
	// There is just one solution, as each free vertex is connected to one that has a value; where none is free, there is none to look for.
	solution, _ := exact.Solve(rows, targets)
	for i, f := range solution {
		potential[free[i]] = f
	}
	return potential
}

// Potential returns the harmonic potential with fixed values.
func Potential(m Map, weight []int, fixed []Fixed) ([]api.Rat, api.Errno) {
	if !Valid(m) || !m.hasWeights(weight) {
		return nil, api.ErrArg
	}
	g := graphOf(m)
	values, ok := g.valuesOf(fixed)
	if !ok {
		return nil, api.ErrArg
	}
	if !g.isDetermined(values) {
		return nil, api.ErrFree
	}
	if g.vertices-len(values) > maxFree {
		return nil, api.ErrSize
	}
	potential := g.seep(weight, values, nil)
	var out []api.Rat
	for _, v := range g.start {
		out = append(out, copyOf(potential[v]))
	}
	return out, api.OK
}

// Resist returns the effective resistance between two vertices.
func Resist(m Map, weight []int, a, b int) (api.Rat, api.Errno) {
	if !Valid(m) || !m.hasWeights(weight) || !m.hasDart(a) || !m.hasDart(b) {
		return api.Rat{}, api.ErrArg
	}
	g := graphOf(m)
	parts, u, v := g.parts(), g.start[a], g.start[b]
	if parts[u] != parts[v] {
		return api.Rat{}, api.ErrState
	}
	// Nothing flows to other parts, so any values will do there.
	values := map[int]int{v: 0}
	for w, part := range parts {
		if part != parts[v] {
			values[w] = 0
		}
	}
	if g.vertices-len(values) > maxFree {
		return api.Rat{}, api.ErrSize
	}
	return g.seep(weight, values, map[int]int{u: 1})[u], api.OK
}

// Energy returns the energy of a potential.
func Energy(m Map, weight []int, p []api.Rat) (api.Rat, api.Errno) {
	if !Valid(m) || !m.hasWeights(weight) || !isPotential(m, p) {
		return api.Rat{}, api.ErrArg
	}
	g := graphOf(m)
	if g.vertices > maxEnergyVertices || slices.ContainsFunc(p, isLong) {
		return api.Rat{}, api.ErrSize
	}
	sum := number(0)
	for e, x := range weight {
		difference, _ := exact.RatSub(p[2*e], p[2*e+1])
		square, _ := exact.RatMul(difference, difference)
		energy, _ := exact.RatMul(number(x), square)
		sum, _ = exact.RatAdd(sum, energy)
	}
	return sum, api.OK
}

// isPotential reports whether p has a valid Rat for each dart of a valid map, the same for all darts of a vertex.
func isPotential(m Map, p []api.Rat) bool {
	if len(p) != len(m.Next) {
		return false
	}
	for d, name := range names(m, m.turn) {
		if order, e := exact.RatCmp(p[d], p[name]); e != api.OK || order != 0 {
			return false
		}
	}
	return true
}

func isLong(f api.Rat) bool {
	return len(f.Num.Words) > maxPotentialWords || len(f.Den.Words) > maxPotentialWords
}
