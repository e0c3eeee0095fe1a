package works

import (
	"strconv"
	"strings"

	"canting/api"
	"canting/bath"
	"canting/mask"
)

const (
	maxRegions = 4
	// baths are the letters of words, in the order of their dyes.
	baths = "abcd"
)

// noCells returns the mask of no cells of a piece.
func noCells() mask.Mask {
	m, _ := mask.Const(2*clothSize, false)
	return m
}

func isEmpty(m mask.Mask) bool {
	n, _ := mask.Count(m)
	return n == 0
}

// areRegions reports whether l may be served, whatever the lengths of its words are.
func areRegions(l []Region) bool {
	if !isBetween(len(l), 1, maxRegions) {
		return false
	}
	all := noCells()
	for _, r := range l {
		common, e := mask.And(all, r.Mask)
		if e != api.OK || !isEmpty(common) || strings.Trim(r.Word, baths) != "" {
			return false
		}
		all, _ = mask.Or(all, r.Mask)
	}
	return true
}

// Serve returns the lines that dye regions by their words.
func Serve(piece string, l []Region) ([]string, api.Errno) {
	if !areRegions(l) || !isPieceName(piece) {
		return nil, api.ErrArg
	}
	words := wordsOf(l)
	letters, e := bath.Shortest(words)
	if e != api.OK {
		return nil, e
	}
	var lines []string
	for i := range len(letters) {
		letter := letters[i : i+1]
		rest, _ := mask.Not(taking(l, words, letter))
		text, _ := mask.Text(rest)
		dye := strconv.Itoa(strings.Index(baths, letter))
		lines = append(lines, "boil "+piece, "wax "+piece+" {"+text+"}", "dye "+piece+" "+dye)
	}
	return append(lines, "boil "+piece), api.OK
}

func wordsOf(l []Region) []string {
	var words []string
	for _, r := range l {
		words = append(words, r.Word)
	}
	return words
}

// taking returns the cells of the regions that take a letter. It takes the letter away from what is left of their words.
func taking(l []Region, left []string, letter string) mask.Mask {
	cells := noCells()
	for i, r := range l {
		if rest, takes := strings.CutPrefix(left[i], letter); takes {
			left[i] = rest
			cells, _ = mask.Or(cells, r.Mask)
		}
	}
	return cells
}
