package stamp

import (
	"slices"

	"canting/api"
)

// Apply moves the cells of a stamp.
func Apply(m Move, s Stamp) (Stamp, api.Errno) {
	if !Valid(s) || !sizeOf(s).has(m) {
		return Stamp{}, api.ErrArg
	}
	return applied(m, s), api.OK
}

func applied(m Move, s Stamp) Stamp {
	cells := make([]int, len(s.Cells))
	for i, to := range sizeOf(s).goals(m) {
		cells[to] = s.Cells[i]
	}
	return Stamp{s.W, s.H, cells}
}

// Keeps returns the moves that leave a stamp as it is.
func Keeps(g []Move, s Stamp) ([]Move, api.Errno) {
	if !Valid(s) || !sizeOf(s).hasGroup(g) {
		return nil, api.ErrArg
	}
	p := patternOf(s)
	var out []Move
	for _, m := range g {
		if p.keeps(m) {
			out = append(out, m)
		}
	}
	return out, api.OK
}

// Orbit returns the stamps that moves make of one.
func Orbit(g []Move, s Stamp) ([]Stamp, api.Errno) {
	if !Valid(s) || !sizeOf(s).hasGroup(g) {
		return nil, api.ErrArg
	}
	return orbit(g, s), api.OK
}

func orbit(g []Move, s Stamp) []Stamp {
	var l []Stamp
	for _, m := range g {
		l = append(l, applied(m, s))
	}
	slices.SortFunc(l, inOrder)
	return slices.CompactFunc(l, isSame)
}

// Least returns the first stamp of an orbit.
func Least(g []Move, s Stamp) (Stamp, api.Errno) {
	if !Valid(s) || !sizeOf(s).hasGroup(g) {
		return Stamp{}, api.ErrArg
	}
	return orbit(g, s)[0], api.OK
}

// Cells returns the classes of cells.
func Cells(w, h int, g []Move) ([]int, api.Errno) {
	z := size{w, h}
	if !z.hasGroup(g) {
		return nil, api.ErrArg
	}
	first := z.goals(Move{})
	for _, m := range g {
		// The group has the inverse of each move: where a cell comes from, another move takes it.
		for i, to := range z.goals(m) {
			first[i] = min(first[i], to)
		}
	}
	return first, api.OK
}
