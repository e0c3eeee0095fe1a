package wax

import (
	"slices"

	"canting/api"
)

const (
	// maxRise is the largest absolute value of a rise.
	maxRise = 10_000
	// At the rise -mostPrice and below all cells are waxed, above mostPrice none: a cell and its at most four neighbours never cost more.
	mostPrice = 5 * maxCost
)

// pairs returns the pairs of neighbours, each with what it costs if just one of them is waxed.
func (c Cloth) pairs() []Arc {
	var l []Arc
	for k, price := range c.Right {
		cell := k/(c.W-1)*c.W + k%(c.W-1)
		l = append(l, Arc{From: cell, To: cell + 1, Cap: price})
	}
	for cell, price := range c.Down {
		l = append(l, Arc{From: cell, To: cell + c.W, Cap: price})
	}
	return l
}

// networkOf returns a network in which the cost of each side is the energy of its cells at the rise r, less what is to be paid anyway. The cells' nodes have the cells' numbers.
func networkOf(c Cloth, r int) network {
	source, sink := c.W*c.H, c.W*c.H+1
	var arcs []Arc
	for cell := range c.Bare {
		// A flow cannot be below zero, so only the difference of wax and no wax counts, where it is paid.
		if more := c.Waxed[cell] + r - c.Bare[cell]; more > 0 {
			arcs = append(arcs, Arc{From: cell, To: sink, Cap: more})
		} else {
			arcs = append(arcs, Arc{From: source, To: cell, Cap: -more})
		}
	}
	for _, p := range c.pairs() {
		arcs = append(arcs, p, Arc{From: p.To, To: p.From, Cap: p.Cap})
	}
	return newNetwork(c.W*c.H+2, source, sink, arcs)
}

// Energy returns what a labelling costs.
func Energy(c Cloth, r int, l []bool) (int, api.Errno) {
	if !isCloth(c) || !isBetween(r, -maxRise, maxRise) {
		return 0, api.ErrArg
	}
	if len(l) != c.W*c.H {
		return 0, api.ErrSize
	}
	sum := 0
	for cell, waxed := range l {
		if waxed {
			sum += c.Waxed[cell] + r
		} else {
			sum += c.Bare[cell]
		}
	}
	for _, p := range c.pairs() {
		if l[p.From] != l[p.To] {
			sum += p.Cap
		}
	}
	return sum, api.OK
}

// Labels returns the least and the greatest cheapest labelling.
func Labels(c Cloth, r int) (least, greatest []bool, e api.Errno) {
	if !isCloth(c) || !isBetween(r, -maxRise, maxRise) {
		return nil, nil, api.ErrArg
	}
	left := fill(networkOf(c, r))
	return left.least()[:c.W*c.H], left.greatest()[:c.W*c.H], api.OK
}

// stage is a rise with its greatest labelling.
type stage struct {
	rise  int
	waxed []bool
}

func stageOf(c Cloth, r int) stage {
	return stage{r, fill(networkOf(c, r)).greatest()[:c.W*c.H]}
}

// Prices returns up to which rise each cell is waxed.
func Prices(c Cloth) ([]int, api.Errno) {
	if !isCloth(c) {
		return nil, api.ErrArg
	}
	prices := make([]int, c.W*c.H)
	c.settle(prices, stageOf(c, -mostPrice), stageOf(c, mostPrice+1))
	return prices, api.OK
}

// settle sets the prices of the cells that are waxed at one stage and no more at a later one. What is waxed only becomes less as the rise becomes greater, so nothing happens between stages that are the same.
func (c Cloth) settle(prices []int, before, after stage) {
	if slices.Equal(before.waxed, after.waxed) {
		return
	}
	if before.rise+1 == after.rise {
		for cell, waxed := range before.waxed {
			if waxed && !after.waxed[cell] {
				prices[cell] = before.rise
			}
		}
		return
	}
	middle := stageOf(c, before.rise+(after.rise-before.rise)/2)
	c.settle(prices, before, middle)
	c.settle(prices, middle, after)
}
