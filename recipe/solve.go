package recipe

import (
	"slices"

	"canting/api"
	"canting/exact"
)

// search goes from basis to basis (the simplex method). A basis is as many independent columns as there are rows, of which amounts that are not below zero make the target.
type search struct {
	columns [][]api.Rat // those of the program, then a helper for each row
	own     int         // how many columns are the program's
	target  []api.Rat
	basis   []int
}

// newSearch begins with the helpers, each of which makes what its row needs.
func newSearch(p Program) *search {
	s := &search{transposed(p.A), len(p.C), p.B, nil}
	for i, f := range p.B {
		helper := numbers(len(p.B), 0)
		helper[i] = number(1)
		if isNegative(f) {
			helper[i] = number(-1)
		}
		s.basis = append(s.basis, len(s.columns))
		s.columns = append(s.columns, helper)
	}
	return s
}

// chosen returns the columns of the basis.
func (s *search) chosen() [][]api.Rat {
	var columns [][]api.Rat
	for _, j := range s.basis {
		columns = append(columns, s.columns[j])
	}
	return columns
}

// amounts returns how much of each column of the basis together makes a column.
func (s *search) amounts(column []api.Rat) []api.Rat {
	x, _ := exact.Solve(transposed(s.chosen()), column)
	return x
}

// prices returns the prices of the rows at which each column of the basis is worth its cost.
func (s *search) prices(cost []api.Rat) []api.Rat {
	var costs []api.Rat
	for _, j := range s.basis {
		costs = append(costs, cost[j])
	}
	y, _ := exact.Solve(s.chosen(), costs)
	return y
}

// improve changes the basis until no other one has a lower cost, or until it finds a column of which any amount can be taken at a cost that falls; it returns that column then. To enter and to leave, the first column that will do is taken (Bland's rule), so that no basis comes again; a helper never enters.
func (s *search) improve(cost []api.Rat) (column int, bounded bool) {
	for {
		enters, found := s.entering(cost)
		if !found {
			return 0, true
		}
		place, found := s.leaving(enters)
		if !found {
			return enters, false
		}
		s.basis[place] = enters
	}
}

// entering returns the first column of the program that is worth more than its cost.
func (s *search) entering(cost []api.Rat) (column int, found bool) {
	y := s.prices(cost)
	for j := range s.own {
		if compare(dot(s.columns[j], y), cost[j]) > 0 {
			return j, true
		}
	}
	return 0, false
}

// leaving returns the place in the basis of the column that is used up first as more of another one is taken.
func (s *search) leaving(enters int) (place int, found bool) {
	amounts, uses := s.amounts(s.target), s.amounts(s.columns[enters])
	// A helper that makes nothing must not begin to, so it leaves even where it would grow.
	canLeave := func(i int) bool {
		isIdle := s.basis[i] >= s.own && sign(amounts[i]) == 0
		return sign(uses[i]) > 0 || isIdle && sign(uses[i]) < 0
	}
	lasts := func(i int) api.Rat {
		f, _ := exact.RatDiv(amounts[i], uses[i])
		return f
	}
	for i, column := range s.basis {
		if !canLeave(i) {
			continue
		}
		order := -1
		if found {
			order = compare(lasts(i), lasts(place))
		}
		if order < 0 || order == 0 && column < s.basis[place] {
			place, found = i, true
		}
	}
	return place, found
}

// spread returns a list for the columns of the program from one for those of the basis.
func (s *search) spread(l []api.Rat) []api.Rat {
	out := numbers(s.own, 0)
	for i, column := range s.basis {
		if column < s.own {
			out[column] = l[i]
		}
	}
	return out
}

// mixture returns what the basis takes of each column.
func (s *search) mixture() []api.Rat {
	return s.spread(s.amounts(s.target))
}

// ray returns what changes with each more of a column that enters without bound.
func (s *search) ray(enters int) []api.Rat {
	out := s.spread(opposites(s.amounts(s.columns[enters])))
	out[enters] = number(1)
	return out
}

// Solve returns a proof for a program.
func Solve(p Program) (Answer, api.Errno) {
	if !isProgram(p) {
		return Answer{}, api.ErrArg
	}
	m, n := len(p.B), len(p.C)
	s := newSearch(p)
	// First only the helpers have a cost, so that no more than needed is left of them. It cannot fall below zero, so it is bounded.
	help := append(numbers(n, 0), numbers(m, 1)...)
	s.improve(help)
	if y := s.prices(help); sign(dot(p.B, y)) > 0 {
		return Answer{Kind: impossible, Value: number(0), Y: y}, api.OK
	}
	// All helpers make nothing now, and go on making nothing.
	cost := append(slices.Clone(p.C), numbers(m, 0)...)
	enters, bounded := s.improve(cost)
	x := s.mixture()
	if !bounded {
		return Answer{Kind: unbounded, Value: number(0), X: x, Ray: s.ray(enters)}, api.OK
	}
	return Answer{Kind: optimal, Value: dot(p.C, x), X: x, Y: s.prices(cost)}, api.OK
}
