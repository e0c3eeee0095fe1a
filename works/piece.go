package works

import (
	"strconv"
	"strings"

	"canting/mask"
)

// piece is a cloth.
type piece struct {
	name   string
	states [side * side]int // of its cells, by their points, as in package dye
	steps  []step           // what was done to it
}

// take does a step and returns how many cells it changes.
func (p *piece) take(s step) int {
	changed := 0
	for at, state := range p.states {
		if s.cells[at] && s.act[state] != state {
			p.states[at] = s.act[state]
			changed++
		}
	}
	p.steps = append(p.steps, s)
	return changed
}

func (p *piece) colourAt(at int) int {
	return p.states[at] / 2
}

func (p *piece) isWaxed(at int) bool {
	return p.states[at]%2 == 1
}

// state returns all that can be seen of the piece.
func (p *piece) state() string {
	var colours, wax strings.Builder
	for y := range side {
		for x := range side {
			at := point(x, y)
			colours.WriteString(strconv.Itoa(p.colourAt(at)))
			if p.isWaxed(at) {
				wax.WriteString("w")
			} else {
				wax.WriteString("b")
			}
		}
	}
	return p.name + " " + colours.String() + " " + wax.String() + "\n"
}

// textOf returns the mask of some cells, which are given by their points.
func textOf(cells []bool) string {
	m, _ := mask.FromTable(cells)
	text, _ := mask.Text(m)
	return text
}

// colour answers which colour a cell has.
func (p *piece) colour(numbers []int) string {
	return strconv.Itoa(p.colourAt(point(numbers[0], numbers[1])))
}

// where answers which cells have a colour.
func (p *piece) where(numbers []int) string {
	cells := make([]bool, len(p.states))
	for at := range cells {
		cells[at] = p.colourAt(at) == numbers[0]
	}
	return textOf(cells)
}

// waxed answers which cells are waxed.
func (p *piece) waxed([]int) string {
	cells := make([]bool, len(p.states))
	for at := range cells {
		cells[at] = p.isWaxed(at)
	}
	return textOf(cells)
}

// word answers what was done to a cell.
func (p *piece) word(numbers []int) string {
	at := point(numbers[0], numbers[1])
	var b strings.Builder
	for _, s := range p.steps {
		if s.cells[at] {
			b.WriteString(s.letter)
		}
	}
	return b.String()
}
