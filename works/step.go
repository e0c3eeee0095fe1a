package works

import (
	"strconv"

	"canting/api"
	"canting/design"
	"canting/dye"
	"canting/mask"
	"canting/stamp"
)

const (
	// clothSize is the k of the cloth that a piece is.
	clothSize = 3
	side      = 1 << clothSize
	// maxSteps is the fuel of a design.
	maxSteps = 2000
)

// The letters of steps are those of package dye, in which a dye has its digit.
const (
	waxLetter  = "w"
	boilLetter = "b"
)

// step is what is done to some cells of a piece.
type step struct {
	letter string
	act    []int  // what it makes of the states of package dye
	cells  []bool // by their points
}

func newStep(overlay dye.Overlay, letter string, cells []bool) (step, api.Errno) {
	act, e := dye.Act(overlay, letter)
	return step{letter, act, cells}, e
}

// point returns the number of a cell, as in package mask.
func point(x, y int) int {
	p, _ := mask.Cell(clothSize, x, y)
	return p
}

// cellsWhere returns the cells that meet a condition.
func cellsWhere(condition func(x, y int) bool) []bool {
	cells := make([]bool, side*side)
	for y := range side {
		for x := range side {
			cells[point(x, y)] = condition(x, y)
		}
	}
	return cells
}

func allCells() []bool {
	return cellsWhere(func(x, y int) bool { return true })
}

// drawn returns the cells of a design.
func drawn(text string) ([]bool, api.Errno) {
	x, e := design.Parse(text)
	if e != api.OK {
		return nil, e
	}
	kind, e := design.Infer(x)
	if e != api.OK || kind != "mask" {
		return nil, api.ErrType
	}
	value, _, e := design.Run(x, maxSteps)
	if e != api.OK {
		return nil, e
	}
	m, e := mask.Read(value.Name)
	if e != api.OK {
		return nil, e
	}
	return mask.Table(m)
}

// draw returns the step with a letter on the cells of the order's design.
func (o order) draw(overlay dye.Overlay, letter string) (step, api.Errno) {
	cells, e := drawn(o.text)
	if e != api.OK {
		return step{}, e
	}
	return newStep(overlay, letter, cells)
}

func (o order) wax(overlay dye.Overlay) (step, api.Errno) {
	return o.draw(overlay, waxLetter)
}

func (o order) scrape(overlay dye.Overlay) (step, api.Errno) {
	return o.draw(overlay, boilLetter)
}

func (o order) tile(overlay dye.Overlay) (step, api.Errno) {
	s := stamp.Stamp{W: o.numbers[0], H: o.numbers[1]}
	for i := range len(o.text) {
		s.Cells = append(s.Cells, int(o.text[i])-'0')
	}
	if !stamp.Valid(s) {
		return step{}, api.ErrArg
	}
	cells := cellsWhere(func(x, y int) bool { return s.Cells[y%s.H*s.W+x%s.W] != 0 })
	return newStep(overlay, waxLetter, cells)
}

func (o order) boil(overlay dye.Overlay) (step, api.Errno) {
	return newStep(overlay, boilLetter, allCells())
}

func (o order) dye(overlay dye.Overlay) (step, api.Errno) {
	i := o.numbers[0]
	if i >= len(overlay.Dyes) {
		return step{}, api.ErrArg
	}
	return newStep(overlay, strconv.Itoa(i), allCells())
}
