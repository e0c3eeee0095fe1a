package crackle

import "canting/api"

// maxGrid is the largest width and the largest height of a grid.
const maxGrid = 5

// The directions from a point of a grid, in the order of the darts around it.
const (
	right = iota
	up
	left
	down
	directions // how many there are
)

// Grid returns a grid.
func Grid(w, h int) (Map, api.Errno) {
	if !isBetween(w, 1, maxGrid) || !isBetween(h, 1, maxGrid) {
		return Map{}, api.ErrArg
	}
	m := Map{make([]int, 2*((w-1)*h+w*(h-1)))}
	for y := range h {
		for x := range w {
			around := gridDarts(w, h, x, y)
			for i, d := range around {
				m.Next[d] = around[(i+1)%len(around)]
			}
		}
	}
	return m, api.OK
}

// gridDarts returns the darts that start at the point (x, y), in the order around it.
func gridDarts(w, h, x, y int) []int {
	var around []int
	for direction := range directions {
		if d, ok := gridDart(w, h, x, y, direction); ok {
			around = append(around, d)
		}
	}
	return around
}

// gridDart returns the dart from the point (x, y) in a direction, if there is one.
func gridDart(w, h, x, y, direction int) (d int, ok bool) {
	// These are the darts of the edges to the right and down that begin at a point.
	rightward := func(x, y int) int { return 2 * (y*(w-1) + x) }
	downward := func(x, y int) int { return 2 * ((w-1)*h + y*w + x) }
	switch direction {
	case right:
		return rightward(x, y), x < w-1
	case up:
		return opposite(downward(x, y-1)), y > 0
	case left:
		return opposite(rightward(x-1, y)), x > 0
	default:
		return downward(x, y), y < h-1
	}
}
