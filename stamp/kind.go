package stamp

import "canting/api"

// maxKind is the largest width and height of a stamp whose kind is told.
const maxKind = 6

// pattern is a colouring of the plane that repeats by its width and by its height.
type pattern struct {
	size
	colour func(x, y int) int
}

func patternOf(s Stamp) pattern {
	z := sizeOf(s)
	return pattern{z, func(x, y int) int { return s.Cells[z.cell(x, y)] }}
}

// keeps reports whether m keeps all colours. It looks at one repeat, so m must not turn an odd number of times unless the pattern is square.
func (p pattern) keeps(m Move) bool {
	for y := range p.h {
		for x := range p.w {
			if p.colour(moved(m, x, y)) != p.colour(x, y) {
				return false
			}
		}
	}
	return true
}

// reduced returns the pattern with the least width and height by which it repeats. A symmetry that turns an odd number of times exchanges the two: if there is one, they are equal, so that all symmetries are moves of this size, but for repeats.
func (p pattern) reduced() pattern {
	w, h := 1, 1
	for !p.keeps(Move{DX: w}) {
		w++
	}
	for !p.keeps(Move{DY: h}) {
		h++
	}
	return pattern{size{w, h}, p.colour}
}

// Kind returns the wallpaper group of a pattern.
func Kind(s Stamp) (string, api.Errno) {
	if !Valid(s) {
		return "", api.ErrArg
	}
	if s.W > maxKind || s.H > maxKind {
		return "", api.ErrSize
	}
	return patternOf(s).reduced().kind(), api.OK
}

// kind returns the kind of a reduced pattern.
func (p pattern) kind() string {
	var turns [4]bool
	var flips [4][]Move
	for m := range p.moves() {
		switch {
		case !p.keeps(m):
		case m.Flip:
			flips[m.Turn] = append(flips[m.Turn], m)
		default:
			turns[m.Turn] = true
		}
	}
	var c classes
	for _, l := range flips {
		c.add(p.axes(l))
	}
	switch {
	case turns[1]:
		return c.kindOfFour()
	case turns[2]:
		return c.kindOfTwo()
	}
	return c.kindOfOne()
}

// axes are those of the symmetries of one class, each one given by two numbers, up to repeats.
type axes struct{ reflections, glides map[[2]int]bool }

// axes returns the axes of a class, given by its moves.
func (p pattern) axes(l []Move) axes {
	a := axes{map[[2]int]bool{}, map[[2]int]bool{}}
	// Between two places that are one repeat apart there is an axis too: two repeats each way tell all axes apart.
	w, h := 2*p.w, 2*p.h
	for _, m := range l {
		for _, dx := range []int{m.DX, m.DX + p.w} {
			for _, dy := range []int{m.DY, m.DY + p.h} {
				// The shift (dx, dy) and what the class makes of it: their sum is twice the way along the axis, their difference tells where the axis is.
				x, y := spun(m, dx, dy)
				axis := [2]int{modulo(dx-x, w), modulo(dy-y, h)}
				if modulo(dx+x, w) == 0 && modulo(dy+y, h) == 0 {
					a.reflections[axis] = true
				} else {
					a.glides[axis] = true
				}
			}
		}
	}
	return a
}

func (a axes) isEmpty() bool {
	return len(a.reflections)+len(a.glides) == 0
}

func (a axes) mirrors() bool {
	return len(a.reflections) > 0
}

// centred reports whether the class mirrors and has a glide whose axis is no reflection's.
func (a axes) centred() bool {
	for axis := range a.glides {
		if !a.reflections[axis] {
			return a.mirrors()
		}
	}
	return false
}

// classes counts the classes that are not empty, those that mirror and those that are centred.
type classes struct{ filled, mirror, centred int }

func (c *classes) add(a axes) {
	if !a.isEmpty() {
		c.filled++
	}
	if a.mirrors() {
		c.mirror++
	}
	if a.centred() {
		c.centred++
	}
}

// kindOfFour returns the kind of a pattern that one turn keeps.
func (c *classes) kindOfFour() string {
	switch {
	case c.filled == 0:
		return "p4"
	case c.mirror == 4:
		return "p4m"
	}
	return "p4g"
}

// kindOfTwo returns the kind of a pattern that two turns keep, but not one.
func (c *classes) kindOfTwo() string {
	switch {
	case c.filled == 0:
		return "p2"
	case c.mirror == 0:
		return "pgg"
	case c.mirror == 1:
		return "pmg"
	case c.centred > 0:
		return "cmm"
	}
	return "pmm"
}

// kindOfOne returns the kind of a pattern that no turn keeps.
func (c *classes) kindOfOne() string {
	switch {
	case c.filled == 0:
		return "p1"
	case c.mirror == 0:
		return "pg"
	case c.centred > 0:
		return "cm"
	}
	return "pm"
}
