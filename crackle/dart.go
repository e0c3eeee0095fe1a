package crackle

import "canting/api"

// opposite returns the other dart of the same edge.
func opposite(d int) int {
	return d ^ 1
}

// turn returns the next dart around the vertex of d.
func (m Map) turn(d int) int {
	return m.Next[d]
}

// follow returns the next dart around the face of d.
func (m Map) follow(d int) int {
	return m.Next[opposite(d)]
}

// names returns for each dart the lowest one of all that can be reached from it. All steps are permutations, so that each dart can be reached from those that it reaches.
func names(m Map, steps ...func(d int) int) []int {
	const unnamed = -1
	out := make([]int, len(m.Next))
	for d := range out {
		out[d] = unnamed
	}
	for lowest := range out {
		reached := []int{lowest}
		for len(reached) > 0 {
			d := reached[len(reached)-1]
			reached = reached[:len(reached)-1]
			if out[d] != unnamed {
				continue
			}
			out[d] = lowest
			for _, step := range steps {
				reached = append(reached, step(d))
			}
		}
	}
	return out
}

// Vertex returns the vertex of each dart.
func Vertex(m Map) ([]int, api.Errno) {
	if !Valid(m) {
		return nil, api.ErrArg
	}
	return names(m, m.turn), api.OK
}

// Face returns the face of each dart.
func Face(m Map) ([]int, api.Errno) {
	if !Valid(m) {
		return nil, api.ErrArg
	}
	return names(m, m.follow), api.OK
}

// Part returns the part of each dart.
func Part(m Map) ([]int, api.Errno) {
	if !Valid(m) {
		return nil, api.ErrArg
	}
	return names(m, m.turn, opposite), api.OK
}

// Euler counts vertices, edges, faces and parts.
func Euler(m Map) (v, e, f, c int, r api.Errno) {
	if !Valid(m) {
		return 0, 0, 0, 0, api.ErrArg
	}
	v = different(names(m, m.turn))
	f = different(names(m, m.follow))
	c = different(names(m, m.turn, opposite))
	return v, m.edges(), f, c, api.OK
}

// different counts names: just the darts that give one have their own.
func different(names []int) int {
	count := 0
	for d, name := range names {
		if name == d {
			count++
		}
	}
	return count
}
