package mask

import (
	"slices"

	"canting/api"
)

// Reorder returns f with its variables in another order.
func Reorder(f Mask, perm []int) (Mask, api.Errno) {
	if !Valid(f) || len(perm) != f.Vars || !isSet(perm, f.Vars) {
		return Mask{}, api.ErrArg
	}
	source := func(p int) int {
		from := 0
		for i, was := range perm {
			from |= bit(p, i, f.Vars) << (f.Vars - 1 - was)
		}
		return from
	}
	return drawn(f, source), api.OK
}

const maxOrdered = 8

// Best returns the order of variables with the fewest nodes.
func Best(f Mask) ([]int, api.Errno) {
	if !Valid(f) {
		return nil, api.ErrArg
	}
	if f.Vars > maxOrdered {
		return nil, api.ErrSize
	}
	return bestOrder(f), api.OK
}

// lower knows the best order of a set of variables that are asked after all others. How many nodes ask them depends on that order alone, and not on the order of the others.
type lower struct {
	top     int   // the first one of the order
	nodes   int   // how many nodes ask these variables
	numbers []int // for all values of the other variables, the number of the function that is left
}

// bestOrder finds the best order of each set of variables from those of the sets with one variable less. A set is an int that has a set bit for each of its variables.
func bestOrder(f Mask) []int {
	all := 1<<f.Vars - 1
	best := make([]lower, all+1)
	for _, b := range table(f) {
		best[0].numbers = append(best[0].numbers, constant(b))
	}
	for set := 1; set <= all; set++ {
		for i := range f.Vars {
			rest := set &^ (1 << i)
			if rest == set {
				continue
			}
			numbers, nodes := ask(best[rest].numbers, stride(i, rest, f.Vars))
			nodes += best[rest].nodes
			// Of equal ones the first is kept: it has the least variable on top.
			if best[set].numbers == nil || nodes < best[set].nodes {
				best[set] = lower{i, nodes, numbers}
			}
		}
	}
	var order []int
	for set := all; set != 0; set &^= 1 << best[set].top {
		order = append(order, best[set].top)
	}
	return order
}

// stride returns by how much the place in the numbers rises with variable i, if the variables of a set are not among those that count.
func stride(i, set, n int) int {
	s := 1
	for j := i + 1; j < n; j++ {
		if set>>j&1 == 0 {
			s *= 2
		}
	}
	return s
}

// ask numbers the functions that are left before a variable is asked, from the numbers of those behind it, and returns how many of them are nodes. Equal functions have equal numbers.
func ask(numbers []int, stride int) (asked []int, nodes int) {
	unused := slices.Max(numbers) + 1
	given := map[Node]int{}
	for start := 0; start < len(numbers); start += 2 * stride {
		for at := start; at < start+stride; at++ {
			node := Node{Low: numbers[at], High: numbers[at+stride]}
			number, known := given[node]
			switch {
			case node.Low == node.High:
				number = node.Low
			case !known:
				number = unused + len(given)
				given[node] = number
			}
			asked = append(asked, number)
		}
	}
	return asked, len(given)
}
