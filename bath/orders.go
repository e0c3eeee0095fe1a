package bath

import "canting/api"

const (
	// maxCost is the largest cost and the largest distance.
	maxCost = 1000
	// maxPairs is the largest number of pairs of Before.
	maxPairs = 40
)

// isPlan reports whether p is valid.
func isPlan(p Plan) bool {
	n := len(p.Start)
	if n < 1 || n > api.MaxBaths || len(p.Before) > maxPairs || !areBetween(p.Start, 0, maxCost) || !areCosts(p.Change, n) {
		return false
	}
	for _, pair := range p.Before {
		if pair[0] == pair[1] || !areBetween(pair[:], 0, n-1) {
			return false
		}
	}
	return true
}

// areCosts reports whether there are n rows of n costs.
func areCosts(rows [][]int, n int) bool {
	if len(rows) != n {
		return false
	}
	for _, row := range rows {
		if len(row) != n || !areBetween(row, 0, maxCost) {
			return false
		}
	}
	return true
}

// course is a plan whose last bath has a cost of its own, so that tours are orders of a course.
type course struct {
	start  []int
	change [][]int
	end    []int
	needs  []int // for each bath, the set of those that must come before it
}

func courseOf(p Plan, end []int) course {
	c := course{p.Start, p.Change, end, make([]int, len(p.Start))}
	for _, pair := range p.Before {
		c.needs[pair[1]] |= 1 << pair[0]
	}
	return c
}

// planCourse returns the course of a plan, and false if it is not valid.
func planCourse(p Plan) (course, bool) {
	if !isPlan(p) {
		return course{}, false
	}
	return courseOf(p, make([]int, len(p.Start))), true
}

// baths returns how many baths there are.
func (c course) baths() int {
	return len(c.start)
}

// all returns the set of all baths.
func (c course) all() int {
	return 1<<c.baths() - 1
}

// size returns how many elements a price table has.
func (c course) size() int {
	return c.baths() << c.baths()
}

// number returns which element of a price table is for a set and its last bath.
func (c course) number(set, last int) int {
	return c.baths()*set + last
}

// setAndLast returns what an element of a price table is for, and whether the last bath is in the set.
func (c course) setAndLast(number int) (set, last int, ok bool) {
	set, last = number/c.baths(), number%c.baths()
	return set, last, set>>last&1 == 1
}

func (c course) canFollow(set, bath int) bool {
	return set>>bath&1 == 0 && c.needs[bath]&^set == 0
}

// hasOrder reports whether all baths can be added one by one. A bath that can follow can do so later too, so any choice will do.
func (c course) hasOrder() bool {
	set := 0
	for range c.baths() {
		for bath := range c.baths() {
			if c.canFollow(set, bath) {
				set |= 1 << bath
			}
		}
	}
	return set == c.all()
}

// cheapest returns the first of the baths that can be added at the least cost, and this cost with the price that is left then. The last bath of the empty set does not matter.
func (c course) cheapest(price func(number int) int, set, last int) (bath, cost int) {
	bath = -1
	for next := range c.baths() {
		if !c.canFollow(set, next) {
			continue
		}
		sum := c.step(set, last, next) + price(c.number(set|1<<next, next))
		if bath < 0 || sum < cost {
			bath, cost = next, sum
		}
	}
	return bath, cost
}

// step returns what it costs to add a bath to a set.
func (c course) step(set, last, next int) int {
	if set == 0 {
		return c.start[next]
	}
	return c.change[last][next]
}

// due returns the greatest element that a sound price table can have for a set and its last bath if it has these other prices.
func (c course) due(price func(number int) int, set, last int) int {
	if set == c.all() {
		return c.end[last]
	}
	_, cost := c.cheapest(price, set, last)
	return cost
}

// prices keeps the least costs still to be paid, for a course that has an order. Then each set, even one that no order begins with, leaves a bath that can follow: the first one of an order that is not in it.
func (c course) prices() *keeper[int] {
	return keep(c.size(), func(of func(int) int, number int) int {
		set, last, ok := c.setAndLast(number)
		if !ok {
			return -1
		}
		return c.due(of, set, last)
	})
}

// best returns the first of the cheapest orders, for a course that has an order.
func (c course) best() []int {
	prices := c.prices()
	var order []int
	set, last := 0, 0
	for range c.baths() {
		last, _ = c.cheapest(prices.of, set, last)
		set |= 1 << last
		order = append(order, last)
	}
	return order
}

// Cost returns what an order costs.
func Cost(p Plan, order []int) (int, api.Errno) {
	c, ok := planCourse(p)
	if !ok {
		return 0, api.ErrArg
	}
	if len(order) != c.baths() || !areBetween(order, 0, c.baths()-1) {
		return 0, api.ErrForm
	}
	cost, set, last := 0, 0, 0
	for _, bath := range order {
		if !c.canFollow(set, bath) {
			return 0, api.ErrForm
		}
		cost += c.step(set, last, bath)
		set |= 1 << bath
		last = bath
	}
	return cost, api.OK
}

// Best returns the first cheapest order.
func Best(p Plan) ([]int, api.Errno) {
	c, ok := planCourse(p)
	if !ok {
		return nil, api.ErrArg
	}
	if !c.hasOrder() {
		return nil, api.ErrNone
	}
	return c.best(), api.OK
}

// Prices returns what is still to be paid from each set on.
func Prices(p Plan) ([]int, api.Errno) {
	c, ok := planCourse(p)
	if !ok {
		return nil, api.ErrArg
	}
	if !c.hasOrder() {
		return nil, api.ErrNone
	}
	prices := c.prices()
	t := make([]int, c.size())
	for number := range t {
		t[number] = prices.of(number)
	}
	return t, api.OK
}

// Check returns what a price table proves, and whether it is sound.
func Check(p Plan, t []int) (int, bool, api.Errno) {
	c, ok := planCourse(p)
	if !ok {
		return 0, false, api.ErrArg
	}
	if len(t) != c.size() {
		return 0, false, api.ErrSize
	}
	if !areBetween(t, -maxElement, maxElement) {
		return 0, false, api.ErrArg
	}
	if !c.hasOrder() {
		return 0, false, api.ErrNone
	}
	price := func(number int) int { return t[number] }
	_, least := c.cheapest(price, 0, 0)
	return least, c.isSound(price), api.OK
}

// isSound reports whether a price table is sound.
func (c course) isSound(price func(number int) int) bool {
	for number := range c.size() {
		set, last, ok := c.setAndLast(number)
		if ok && price(number) > c.due(price, set, last) {
			return false
		}
	}
	return true
}
