package mask

import "canting/api"

// maxCloth is the largest k of a cloth of 2^k by 2^k cells.
const maxCloth = api.MaxVars / 2

// onCloth reports whether all of l are coordinates on a cloth of k.
func onCloth(k int, l ...int) bool {
	if k < 0 || k > maxCloth {
		return false
	}
	for _, x := range l {
		if x < 0 || x >= 1<<k {
			return false
		}
	}
	return true
}

// pointOf returns the point of a cell: the bits of x and y by turns.
func pointOf(k, x, y int) int {
	p := 0
	for i := range k {
		p = p<<2 | bit(x, i, k)<<1 | bit(y, i, k)
	}
	return p
}

func cellOf(k, p int) (x, y int) {
	for i := range k {
		x = x<<1 | bit(p, 2*i, 2*k)
		y = y<<1 | bit(p, 2*i+1, 2*k)
	}
	return x, y
}

// Cell returns the point of a cell.
func Cell(k, x, y int) (int, api.Errno) {
	if !onCloth(k, x, y) {
		return 0, api.ErrArg
	}
	return pointOf(k, x, y), api.OK
}

// Rect returns a rectangle of cells.
func Rect(k, x0, y0, x1, y1 int) (Mask, api.Errno) {
	if !onCloth(k, x0, y0, x1, y1) {
		return Mask{}, api.ErrArg
	}
	t := make([]bool, 1<<(2*k))
	for x := x0; x <= x1; x++ {
		for y := y0; y <= y1; y++ {
			t[pointOf(k, x, y)] = true
		}
	}
	return fromTable(t), api.OK
}

// moved returns the cloth that has at each cell what f has at its source.
func moved(f Mask, source func(side, x, y int) (int, int)) (Mask, api.Errno) {
	if !Valid(f) || f.Vars%2 != 0 {
		return Mask{}, api.ErrArg
	}
	k := f.Vars / 2
	point := func(p int) int {
		x, y := cellOf(k, p)
		x, y = source(1<<k, x, y)
		return pointOf(k, x, y)
	}
	return drawn(f, point), api.OK
}

// Shift moves a region round the cloth.
func Shift(f Mask, dx, dy int) (Mask, api.Errno) {
	source := func(side, x, y int) (int, int) {
		// The side is a power of two: the lowest bits are right even where the difference wraps around.
		return (x - dx) & (side - 1), (y - dy) & (side - 1)
	}
	return moved(f, source)
}

// Turn turns a region clockwise.
func Turn(f Mask) (Mask, api.Errno) {
	source := func(side, x, y int) (int, int) { return y, side - 1 - x }
	return moved(f, source)
}
