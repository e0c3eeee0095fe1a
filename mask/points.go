package mask

import (
	"math/bits"

	"canting/api"
)

// isPoint reports whether p is a point of n variables.
func isPoint(p, n int) bool {
	return p >= 0 && p < 1<<n
}

// bit returns the value of variable i at a point of n variables.
func bit(p, i, n int) int {
	return p >> (n - 1 - i) & 1
}

// value returns the value of a mask at a point.
func value(f Mask, p int) bool {
	place := f.Root
	for place >= firstNode {
		node := f.Nodes[place-firstNode]
		place = node.Low
		if bit(p, node.Var, f.Vars) == 1 {
			place = node.High
		}
	}
	return place == truePlace
}

// At returns the value at a point.
func At(f Mask, p int) (bool, api.Errno) {
	if !Valid(f) || !isPoint(p, f.Vars) {
		return false, api.ErrArg
	}
	return value(f, p), api.OK
}

// tally knows for each place of a mask how many points it has, as a function of the variables from the one that it asks on.
type tally struct {
	graph
	root   int
	points []int
}

func tallyOf(f Mask) tally {
	t := tally{graphOf(f), f.Root, []int{0, 1}}
	for _, node := range f.Nodes {
		t.points = append(t.points, t.from(node.Var+1, node.Low)+t.from(node.Var+1, node.High))
	}
	return t
}

// from returns how many points a place has as a function of the variables from v on.
func (t tally) from(v, place int) int {
	return t.points[place] << (t.level(place) - v)
}

// below returns how many points are below p.
func (t tally) below(p int) int {
	place, n := t.root, 0
	for v := range t.vars {
		low, high := t.parts(place, v)
		place = low
		if bit(p, v, t.vars) == 1 {
			n += t.from(v+1, low)
			place = high
		}
	}
	return n
}

// nth returns the k-th point, which there must be.
func (t tally) nth(k int) int {
	place, p := t.root, 0
	for v := range t.vars {
		low, high := t.parts(place, v)
		place, p = low, 2*p
		if n := t.from(v+1, low); k >= n {
			place, p, k = high, p+1, k-n
		}
	}
	return p
}

// Count returns how many points f has.
func Count(f Mask) (int, api.Errno) {
	if !Valid(f) {
		return 0, api.ErrArg
	}
	return tallyOf(f).from(0, f.Root), api.OK
}

// Next returns the least point of f that is not below p.
func Next(f Mask, p int) (int, api.Errno) {
	if !Valid(f) || !isPoint(p, f.Vars) {
		return 0, api.ErrArg
	}
	return Nth(f, tallyOf(f).below(p))
}

// Nth returns a point of f by its number.
func Nth(f Mask, k int) (int, api.Errno) {
	if !Valid(f) || k < 0 {
		return 0, api.ErrArg
	}
	t := tallyOf(f)
	if k >= t.from(0, f.Root) {
		return 0, api.ErrNone
	}
	return t.nth(k), api.OK
}

// Table returns the values at all points.
func Table(f Mask) ([]bool, api.Errno) {
	if !Valid(f) {
		return nil, api.ErrArg
	}
	return table(f), api.OK
}

func table(f Mask) []bool {
	t := make([]bool, 1<<f.Vars)
	for p := range t {
		t[p] = value(f, p)
	}
	return t
}

// FromTable returns the mask of a table.
func FromTable(t []bool) (Mask, api.Errno) {
	if bits.OnesCount(uint(len(t))) != 1 || len(t) > 1<<api.MaxVars {
		return Mask{}, api.ErrArg
	}
	return fromTable(t), api.OK
}

// fromTable returns the mask of a table of the right length.
func fromTable(t []bool) Mask {
	d := newDiagram(bits.Len(uint(len(t))) - 1)
	var build func(v int, part []bool) int
	build = func(v int, part []bool) int {
		if v == d.vars {
			return constant(part[0])
		}
		half := len(part) / 2
		low := build(v+1, part[:half])
		high := build(v+1, part[half:])
		return d.place(v, low, high)
	}
	return d.mask(build(0, t))
}

// drawn returns the mask that has at each point the value that f has at its source.
func drawn(f Mask, source func(p int) int) Mask {
	was := table(f)
	is := make([]bool, len(was))
	for p := range is {
		is[p] = was[source(p)]
	}
	return fromTable(is)
}
