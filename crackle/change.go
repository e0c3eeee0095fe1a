package crackle

import "canting/api"

// Dual returns the dual map.
func Dual(m Map) (Map, api.Errno) {
	if !Valid(m) {
		return Map{}, api.ErrArg
	}
	return m.dual(), api.OK
}

// dual needs a valid map.
func (m Map) dual() Map {
	next := make([]int, len(m.Next))
	for d := range next {
		next[d] = m.follow(d)
	}
	return Map{next}
}

// Delete removes an edge.
func Delete(m Map, e int) (Map, api.Errno) {
	if !Valid(m) || !m.hasEdge(e) {
		return Map{}, api.ErrArg
	}
	return m.without(e), api.OK
}

// Contract contracts an edge.
func Contract(m Map, e int) (Map, api.Errno) {
	if !Valid(m) || !m.hasEdge(e) {
		return Map{}, api.ErrArg
	}
	return m.dual().without(e).dual(), api.OK
}

// without needs a valid map that has the edge e.
func (m Map) without(e int) Map {
	next := map[int]int{}
	for d := range m.Next {
		next[d] = m.turn(d)
	}
	remove(next, 2*e)
	remove(next, 2*e+1)
	number := func(d int) int {
		if d > 2*e {
			return d - 2
		}
		return d
	}
	out := Map{make([]int, len(next))}
	for d, after := range next {
		out.Next[number(d)] = number(after)
	}
	return out
}

// remove deletes a dart; the one before it is followed by the one after it.
func remove(next map[int]int, d int) {
	before := d
	for next[before] != d {
		before = next[before]
	}
	next[before] = next[d]
	delete(next, d)
}
