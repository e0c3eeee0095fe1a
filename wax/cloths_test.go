package wax_test

import (
	"fmt"
	"math"
	"math/rand"
	"slices"

	"canting/wax"
)

// energy follows the definition, cell by cell and pair by pair.
func energy(c wax.Cloth, r int, l []bool) int {
	sum := 0
	for y := range c.H {
		for x := range c.W {
			cell := y*c.W + x
			if l[cell] {
				sum += c.Waxed[cell] + r
			} else {
				sum += c.Bare[cell]
			}
			if x+1 < c.W && l[cell] != l[cell+1] {
				sum += c.Right[y*(c.W-1)+x]
			}
			if y+1 < c.H && l[cell] != l[cell+c.W] {
				sum += c.Down[y*c.W+x]
			}
		}
	}
	return sum
}

// start is a labelling of the first rows, with its energy.
type start struct {
	energy int
	waxed  []bool
}

// isBetter compares by energy, then by the number of waxed cells: fewer are better, or more.
func (s start) isBetter(other start, more bool) bool {
	if s.energy != other.energy {
		return s.energy < other.energy
	}
	if more {
		return count(s.waxed) > count(other.waxed)
	}
	return count(s.waxed) < count(other.waxed)
}

// row returns what a labelling of a row costs, with the pairs to the row above it.
func row(c wax.Cloth, y, r int, above, waxed []bool) int {
	sum := 0
	for x, is := range waxed {
		if is {
			sum += c.Waxed[y*c.W+x] + r
		} else {
			sum += c.Bare[y*c.W+x]
		}
		if x > 0 && is != waxed[x-1] {
			sum += c.Right[y*(c.W-1)+x-1]
		}
		if y > 0 && is != above[x] {
			sum += c.Down[(y-1)*c.W+x]
		}
	}
	return sum
}

// labels goes from row to row and keeps the best labelling above each labelling of the last row.
func labels(c wax.Cloth, r int, more bool) start {
	rows := bools(c.W)
	starts := []start{{}}
	for y := range c.H {
		var longer []start
		for _, waxed := range rows {
			var best start
			for k, s := range starts {
				var above []bool
				if y > 0 {
					above = rows[k]
				}
				next := start{s.energy + row(c, y, r, above, waxed), slices.Concat(s.waxed, waxed)}
				if k == 0 || next.isBetter(best, more) {
					best = next
				}
			}
			longer = append(longer, best)
		}
		starts = longer
	}
	best := starts[0]
	for _, s := range starts {
		if s.isBetter(best, more) {
			best = s
		}
	}
	return best
}

func randomCosts(r *rand.Rand, n, most int) []int {
	l := make([]int, n)
	for i := range l {
		l[i] = r.Intn(most + 1)
	}
	return l
}

// randomCloth has cells that cost at most cell, and pairs that cost at most pair.
func randomCloth(r *rand.Rand, w, h, cell, pair int) wax.Cloth {
	return wax.Cloth{
		W: w, H: h,
		Bare: randomCosts(r, w*h, cell), Waxed: randomCosts(r, w*h, cell),
		Right: randomCosts(r, (w-1)*h, pair), Down: randomCosts(r, w*(h-1), pair),
	}
}

// evenCloth has the same costs everywhere.
func evenCloth(w, h, bare, waxed, pair int) wax.Cloth {
	return wax.Cloth{
		W: w, H: h,
		Bare: slices.Repeat([]int{bare}, w*h), Waxed: slices.Repeat([]int{waxed}, w*h),
		Right: slices.Repeat([]int{pair}, (w-1)*h), Down: slices.Repeat([]int{pair}, w*(h-1)),
	}
}

// chequered costs nothing where it is waxed on one half of its cells and bare on the other.
func chequered(w, h, cell, pair int) wax.Cloth {
	c := evenCloth(w, h, 0, 0, pair)
	for k := range c.Bare {
		if (k/w+k%w)%2 == 0 {
			c.Bare[k] = cell
		} else {
			c.Waxed[k] = cell
		}
	}
	return c
}

// plainCloths are such as need care.
func plainCloths() []wax.Cloth {
	return []wax.Cloth{
		{W: 2, H: 1, Bare: []int{5, 0}, Waxed: []int{0, 2}, Right: []int{4}},
		{W: 1, H: 2, Bare: []int{5, 0}, Waxed: []int{0, 2}, Down: []int{4}},
		{W: 1, H: 1, Bare: []int{0}, Waxed: []int{0}},
		{W: 1, H: 1, Bare: []int{1000}, Waxed: []int{0}},
		{W: 1, H: 1, Bare: []int{0}, Waxed: []int{1000}},
		{W: 1, H: 6, Bare: []int{9, 0, 9, 0, 9, 0}, Waxed: []int{0, 9, 0, 9, 0, 9}, Down: []int{1, 2, 3, 4, 5}},
		{W: 6, H: 1, Bare: []int{9, 0, 9, 0, 9, 0}, Waxed: []int{0, 9, 0, 9, 0, 9}, Right: []int{5, 4, 3, 2, 1}},
		{W: 3, H: 2, Bare: []int{1, 2, 3, 4, 5, 6}, Waxed: []int{6, 5, 4, 3, 2, 1}, Right: []int{1, 0, 2, 3}, Down: []int{0, 1, 4}},
		{W: 2, H: 3, Bare: []int{1, 2, 3, 4, 5, 6}, Waxed: []int{6, 5, 4, 3, 2, 1}, Right: []int{7, 1, 0}, Down: []int{2, 0, 1, 9}},
		evenCloth(2, 2, 0, 0, 0),
		evenCloth(3, 3, 1, 1, 1),
		evenCloth(3, 3, 1000, 0, 1000),
		evenCloth(3, 3, 0, 1000, 1000),
		chequered(3, 3, 4, 1),
		chequered(3, 3, 4, 2),
		chequered(3, 3, 1000, 1000),
	}
}

// smallCloths have so few cells that all labellings can be listed.
func smallCloths() []wax.Cloth {
	l := plainCloths()
	r := rand.New(rand.NewSource(74))
	for k := range 150 {
		w := 1 + k%4
		l = append(l, randomCloth(r, w, 1+r.Intn(min(6, 9/w)), []int{1, 3, 20, 1000}[k/4%4], []int{0, 1, 5, 300, 1000}[r.Intn(5)]))
	}
	return l
}

// cloths are the small ones and larger ones.
func cloths() []wax.Cloth {
	l := append(smallCloths(), evenCloth(6, 6, 0, 0, 0), evenCloth(6, 6, 1000, 0, 1000), evenCloth(6, 6, 0, 1000, 1000), chequered(6, 6, 1000, 250), chequered(6, 6, 7, 3))
	r := rand.New(rand.NewSource(75))
	for w := 1; w <= 6; w++ {
		for h := 1; h <= 6; h++ {
			l = append(l, randomCloth(r, w, h, 1000, 400), randomCloth(r, w, h, 3, 1))
		}
	}
	return append(l, randomCloth(r, 6, 6, 1000, 1000), randomCloth(r, 6, 6, 20, 5), randomCloth(r, 6, 6, 1000, 100))
}

// badCloths are no cloths, by what is wrong with them.
func badCloths() map[string]wax.Cloth {
	l := map[string]wax.Cloth{"nothing": {}, "sizes only": {W: 1, H: 1}}
	for _, bad := range []int{0, -1, 7, math.MinInt, math.MaxInt, 1 << 32} {
		c := evenCloth(3, 3, 1, 1, 1)
		c.W = bad
		l[fmt.Sprintf("W %d", bad)] = c
		c.W, c.H = 3, bad
		l[fmt.Sprintf("H %d", bad)] = c
	}
	l["W 7, with cells"] = evenCloth(7, 1, 1, 1, 1)
	l["H 7, with cells"] = evenCloth(1, 7, 1, 1, 1)
	l["W 0, H 0, without cells"] = wax.Cloth{Bare: []int{}, Waxed: []int{}}
	turned := evenCloth(3, 2, 1, 1, 1)
	turned.W, turned.H = 2, 3
	l["3 by 2 for 2 by 3"] = turned
	for at := range 4 {
		part := func(c *wax.Cloth) *[]int {
			return []*[]int{&c.Bare, &c.Waxed, &c.Right, &c.Down}[at]
		}
		for _, bad := range []int{-1, 1001, math.MinInt, math.MaxInt} {
			first, last := evenCloth(3, 2, 1, 1, 1), evenCloth(3, 2, 1, 1, 1)
			p, q := part(&first), part(&last)
			(*p)[0], (*q)[len(*q)-1] = bad, bad
			l[fmt.Sprintf("%d first in slice %d", bad, at)] = first
			l[fmt.Sprintf("%d last in slice %d", bad, at)] = last
		}
		less, more, none, long := evenCloth(3, 2, 1, 1, 1), evenCloth(3, 2, 1, 1, 1), evenCloth(3, 2, 1, 1, 1), evenCloth(3, 2, 1, 1, 1)
		p, q := part(&less), part(&more)
		*p, *q = (*p)[1:], append(*q, 1)
		*part(&none), *part(&long) = nil, make([]int, 1_000_000)
		l[fmt.Sprintf("slice %d with one element less", at)] = less
		l[fmt.Sprintf("slice %d with one element more", at)] = more
		l[fmt.Sprintf("slice %d without elements", at)] = none
		l[fmt.Sprintf("slice %d with very many elements", at)] = long
	}
	return l
}

// badRises are out of range.
func badRises() []int {
	return []int{-10_001, 10_001, math.MinInt, math.MaxInt}
}
