package stamp

import (
	"slices"

	"canting/api"
	"canting/exact"
)

// maxList is the largest number of stamps that List looks through.
const maxList = 4096

func isColours(n int) bool {
	return n >= 1 && n <= api.MaxColour
}

// Burnside returns how many stamps there are, alike ones counted once.
func Burnside(w, h, colours int, g []Move) (api.Int, api.Errno) {
	z := size{w, h}
	if !isColours(colours) || !z.hasGroup(g) {
		return api.Int{}, api.ErrArg
	}
	having := make([]int, w*h+1) // the number of moves that have so many cycles
	for _, m := range g {
		having[cycles(z.goals(m))]++
	}
	// The sum has fewer than 256 bits, so that no error is possible.
	sum := api.Int{}
	for _, n := range slices.Backward(having) {
		sum, _ = exact.Mul(sum, exact.FromInt(colours))
		sum, _ = exact.Add(sum, exact.FromInt(n))
	}
	count, _, e := exact.Div(sum, exact.FromInt(len(g)))
	return count, e
}

// cycles returns the number of cycles of a permutation.
func cycles(goals []int) int {
	n := 0
	met := make([]bool, len(goals))
	for i := range goals {
		if !met[i] {
			n++
		}
		for at := i; !met[at]; at = goals[at] {
			met[at] = true
		}
	}
	return n
}

// List returns the first stamp of each class of alike ones.
func List(w, h, colours int, g []Move) ([]Stamp, api.Errno) {
	z := size{w, h}
	if !isColours(colours) || !z.hasGroup(g) {
		return nil, api.ErrArg
	}
	if isLong(colours, w*h) {
		return nil, api.ErrSize
	}
	var moves [][]int
	for _, m := range g {
		moves = append(moves, z.goals(m))
	}
	var out []Stamp
	cells := make([]int, w*h)
	for more := true; more; more = next(cells, colours) {
		if isFirst(cells, moves) {
			out = append(out, Stamp{w, h, slices.Clone(cells)})
		}
	}
	return out, api.OK
}

// isLong reports whether there are more than maxList stamps of n cells.
func isLong(colours, n int) bool {
	count := 1
	for range n {
		count *= colours
		if count > maxList {
			return true
		}
	}
	return false
}

// next makes the cells those of the next stamp; after the last one it returns false.
func next(cells []int, colours int) bool {
	for i := range slices.Backward(cells) {
		if cells[i]++; cells[i] < colours {
			return true
		}
		cells[i] = 0
	}
	return false
}

// isFirst reports whether no move makes cells that are before these.
func isFirst(cells []int, moves [][]int) bool {
	for _, goals := range moves {
		if isBefore(cells, goals) {
			return false
		}
	}
	return true
}

// isBefore reports whether the stamp is before these cells that has at each cell the colour of its goal. It is the one that the inverse of the move makes.
func isBefore(cells, goals []int) bool {
	for i, to := range goals {
		if cells[to] != cells[i] {
			return cells[to] < cells[i]
		}
	}
	return false
}
