package stamp_test

import (
	"maps"
	"math/rand"
	"slices"
	"strings"
	"testing"

	"canting/api"
	"canting/stamp"
)

// symmetries are those of the plane: shifts of one linear map.
type symmetries struct {
	linear affine
	side   int    // by which the pattern repeats both ways
	has    []bool // by the shift modulo the side
}

func (y symmetries) at(e, f int) bool {
	return y.has[mod(e, y.side)*y.side+mod(f, y.side)]
}

func (y symmetries) isEmpty() bool {
	return !slices.Contains(y.has, true)
}

// symmetriesOf tries all shifts of a linear map on a square of repeats.
func symmetriesOf(s stamp.Stamp, l affine) symmetries {
	side := s.W
	for side%s.H != 0 {
		side += s.W
	}
	colour := make([]int, side*side)
	for i := range colour {
		colour[i] = s.Cells[i/side%s.H*s.W+i%side%s.W]
	}
	y := symmetries{l, side, nil}
	for e := range side {
		for f := range side {
			l.e, l.f = e, f
			keeps := true
			for i := 0; i < len(colour) && keeps; i++ {
				gx, gy := l.of(i%side, i/side)
				keeps = colour[mod(gy, side)*side+mod(gx, side)] == colour[i]
			}
			y.has = append(y.has, keeps)
		}
	}
	return y
}

// eachShift calls visit with the shifts up to a bound both ways.
func (y symmetries) eachShift(bound int, visit func(glide bool, axis [2]int)) {
	for e := -bound; e <= bound; e++ {
		for f := -bound; f <= bound; f++ {
			if y.at(e, f) {
				// What is done twice shifts by the shift and what the linear map makes of it. The axis goes through half the shift, in the direction that the linear map keeps.
				le, lf := y.linear.of(e, f)
				visit(e+le != 0 || f+lf != 0, [2]int{e - le, f - lf})
			}
		}
	}
}

// axes tells whether there is a reflection, and whether there is a glide with an axis of no reflection. No bound of the shifts is needed but one that is large enough for each glide's axis to be met by a reflection, if there is one.
func (y symmetries) axes() (mirrors, others bool) {
	reflections := map[[2]int]bool{}
	y.eachShift(3*y.side, func(glide bool, axis [2]int) {
		if !glide {
			reflections[axis] = true
		}
	})
	y.eachShift(y.side, func(glide bool, axis [2]int) {
		others = others || glide && !reflections[axis]
	})
	return len(reflections) > 0, others
}

// kindOf follows the definition of kinds.
func kindOf(s stamp.Stamp) string {
	filled, mirrored, centred := 0, 0, 0
	for turns := range 4 {
		y := symmetriesOf(s, linear(true, turns))
		if y.isEmpty() {
			continue
		}
		filled++
		mirrors, others := y.axes()
		if mirrors {
			mirrored++
		}
		if mirrors && others {
			centred++
		}
	}
	choose := func(yes bool, a, b string) string {
		if yes {
			return a
		}
		return b
	}
	if !symmetriesOf(s, linear(false, 1)).isEmpty() {
		return choose(filled == 0, "p4", choose(mirrored == 4, "p4m", "p4g"))
	}
	if !symmetriesOf(s, linear(false, 2)).isEmpty() {
		if filled == 0 {
			return "p2"
		}
		return []string{"pgg", "pmg", choose(centred > 0, "cmm", "pmm")}[mirrored]
	}
	if filled == 0 {
		return "p1"
	}
	return choose(mirrored == 0, "pg", choose(centred > 0, "cm", "pm"))
}

// drawn returns the stamp of a picture: rows of digits.
func drawn(picture string) stamp.Stamp {
	rows := strings.Fields(picture)
	s := stamp.Stamp{W: len(rows[0]), H: len(rows)}
	for _, c := range strings.Join(rows, "") {
		s.Cells = append(s.Cells, int(c-'0'))
	}
	return s
}

// TestP3_6_Pictures tells the kinds of pictures by hand.
func TestP3_6_Pictures(t *testing.T) {
	for picture, want := range map[string]string{
		"3":                   "p4m",
		"33 33":               "p4m",
		"01":                  "pmm",
		"0 1":                 "pmm",
		"01 10":               "p4m",
		"01 11":               "p4m",
		"012":                 "pm",
		"0 1 2":               "pm",
		"001":                 "pmm",
		"01 01":               "pmm",
		"01 23":               "pmm",
		"012345":              "pm",
		"012 120 201":         "cm",
		"012 201 120":         "cm",
		"0001 0001 0011":      "pm",
		"0000 0001 0011":      "p1",
		"000 011 110":         "p2",
		"001 011":             "pm",
		"01 00 11":            "pm",
		"0011 0101 1100":      "pg",
		"000 001 011":         "cm",
		"000 010 110":         "cm",
		"001 010":             "pmg",
		"01 10 00":            "pmg",
		"0011 0101 1100 1010": "pgg",
		"000 001 010":         "cmm",
		"001100 110011":       "pmm",
		"0010 1000":           "cmm",
		"0001 0100":           "cmm",
		"0001 0010 1011 0111": "p4",
		"0001 0010 1000 0100": "p4g",
		"0100 0001 0010 1000": "p4g",
		"010 111 010":         "p4m",
		"000 010 000":         "p4m",
		// The glides and half turns of pgg make it, but its colours have mirrors too.
		"257475 106360 360106 475257 360106 106360": "cmm",
	} {
		if got, e := stamp.Kind(drawn(picture)); e != api.OK || got != want {
			t.Errorf("Kind(%s): %s, %v, want %s", picture, got, e, want)
		}
	}
}

// mixed returns a stamp that all moves of a group leave as it is, with colours that are as different as possible.
func mixed(r *rand.Rand, w, h int, g []stamp.Move) stamp.Stamp {
	s := stamp.Stamp{W: w, H: h, Cells: slices.Repeat([]int{-1}, w*h)}
	var colours []int
	for i := range s.Cells {
		if s.Cells[i] >= 0 {
			continue
		}
		if len(colours) == 0 {
			colours = r.Perm(8)
		}
		for _, m := range g {
			s.Cells[goal(w, h, m, i)] = colours[0]
		}
		colours = colours[1:]
	}
	return s
}

// exactly returns a mixed stamp that the moves of a group leave as it is, and no other moves. Where the colours do not suffice to keep all cells apart, a draw may have more symmetries by chance: it is passed over.
func exactly(t *testing.T, r *rand.Rand, w, h int, g []stamp.Move) stamp.Stamp {
	t.Helper()
	for range 1000 {
		s := mixed(r, w, h, g)
		changes := func(m stamp.Move) bool { return !same(applyOf(m, s), s) }
		if keepers := slices.DeleteFunc(movesOf(w, h), changes); slices.Equal(keepers, g) {
			return s
		}
	}
	t.Fatalf("no stamp has exactly the symmetries %v", g)
	return stamp.Stamp{}
}

// TestP3_6_Groups makes stamps without other symmetries than those of the group that some moves make.
func TestP3_6_Groups(t *testing.T) {
	r := rand.New(rand.NewSource(40))
	flip, across, half := stamp.Move{Flip: true}, stamp.Move{Flip: true, Turn: 2}, stamp.Move{Turn: 2}
	kinds := map[string][]stamp.Move{
		"p1":  {},
		"p2":  {half},
		"pm":  {flip},
		"pg":  {{DY: 3, Flip: true}},
		"cm":  {flip, {DX: 3, DY: 3}},
		"pmm": {flip, across},
		"pmg": {{DX: 3, Flip: true, Turn: 2}, half},
		"pgg": {{DX: 3, DY: 3, Flip: true}, half},
		"cmm": {flip, across, {DX: 3, DY: 3}},
		"p4":  {{Turn: 1}},
		"p4g": {{Turn: 1}, {DX: 3, DY: 3, Flip: true}},
		"p4m": {{Turn: 1}, flip},
	}
	// In order, so that each run draws the same stamps.
	for _, want := range slices.Sorted(maps.Keys(kinds)) {
		g := closeOf(6, 6, kinds[want])
		for range 50 {
			s := exactly(t, r, 6, 6, g)
			if got, e := stamp.Kind(s); e != api.OK || got != want || kindOf(s) != want {
				t.Errorf("Kind(%v): %s, %v, want %s", s, got, e, want)
			}
		}
	}
}

// TestP3_6_Diagonals makes stamps whose axes go diagonally: on a lattice of squares along the cells the mirrors are centred, on one whose squares stand on a corner they are not.
func TestP3_6_Diagonals(t *testing.T) {
	r := rand.New(rand.NewSource(42))
	corner := stamp.Move{DX: 3, DY: 3}
	rising, falling, half := stamp.Move{Flip: true, Turn: 1}, stamp.Move{Flip: true, Turn: 3}, stamp.Move{Turn: 2}
	kinds := map[string][][]stamp.Move{
		"cm":  {{rising}, {falling}, {{DX: 2, DY: 2, Flip: true, Turn: 1}}},
		"cmm": {{rising, falling}, {rising, {DX: 1, DY: 3, Turn: 2}}},
		"pm":  {{rising, corner}, {falling, corner}},
		"pmm": {{rising, falling, corner}, {half, falling, corner}},
		"pg":  {{{DX: 3, Flip: true, Turn: 1}, corner}, {{DY: 3, Flip: true, Turn: 3}, corner}},
		"pmg": {{{DX: 3, Flip: true, Turn: 1}, {DX: 1, DY: 2, Turn: 2}, corner}},
		"pgg": {{{DX: 3, Flip: true, Turn: 1}, half, corner}},
		"p2":  {{half, corner}},
	}
	for _, want := range slices.Sorted(maps.Keys(kinds)) {
		for _, makers := range kinds[want] {
			g := closeOf(6, 6, makers)
			for range 20 {
				s := exactly(t, r, 6, 6, g)
				if got, e := stamp.Kind(s); e != api.OK || got != want || kindOf(s) != want {
					t.Errorf("Kind(%v) with %v: %s, %v, want %s", s, makers, got, e, want)
				}
			}
		}
	}
}

// TestP3_6_Kind compares kinds with their definition, for all small stamps and for ones with symmetries.
func TestP3_6_Kind(t *testing.T) {
	met := map[string]int{}
	try := func(s stamp.Stamp) {
		want := kindOf(s)
		met[want]++
		if got, e := stamp.Kind(s); e != api.OK || got != want {
			t.Errorf("Kind(%v): %s, %v, want %s", s, got, e, want)
		}
	}
	allStamps(3, 3, 2, try)
	allStamps(4, 2, 2, try)
	allStamps(2, 3, 3, try)
	allStamps(1, 4, 4, try)
	r := rand.New(rand.NewSource(41))
	for _, makers := range [][]stamp.Move{{{DX: 3, DY: 3, Flip: true}, {Turn: 2}}, {{Turn: 1}, {DX: 3, DY: 3, Flip: true}}, {{DY: 3, Flip: true}}} {
		g := closeOf(6, 6, makers)
		for range 10 {
			try(mixed(r, 6, 6, g))
		}
	}
	for range 300 {
		w, h := 1+r.Intn(6), 1+r.Intn(6)
		if r.Intn(2) == 0 {
			h = w
		}
		try(randomAlike(r, w, h, 1+r.Intn(8), randomGroup(r, w, h)))
	}
	if len(met) != 12 {
		t.Errorf("not all kinds are tested: %v", met)
	}
}

func TestP3_6_Sizes(t *testing.T) {
	for w := 1; w <= 8; w++ {
		for h := 1; h <= 8; h++ {
			want, code := "p4m", api.OK
			if w > 6 || h > 6 {
				want, code = "", api.ErrSize
			}
			s := stamp.Stamp{W: w, H: h, Cells: slices.Repeat([]int{7}, w*h)}
			if got, e := stamp.Kind(s); got != want || e != code {
				t.Errorf("Kind of %d by %d cells: %s, %v", w, h, got, e)
			}
			s.Cells[w*h-1] = 8
			if got, e := stamp.Kind(s); got != "" || e != api.ErrArg {
				t.Errorf("Kind of %d by %d cells with the colour 8: %s, %v", w, h, got, e)
			}
		}
	}
	for what, s := range badStamps() {
		if got, e := stamp.Kind(s); got != "" || e != api.ErrArg {
			t.Errorf("Kind with %s: %s, %v", what, got, e)
		}
	}
}
