package stamp_test

import (
	"cmp"
	"fmt"
	"math"
	"math/rand"
	"slices"

	"canting/api"
	"canting/stamp"
)

// The tests compare package stamp with maps of the plane that are kept as matrices, and only through the exported functions.

// affine is the map from (x, y) to (a x + b y + e, c x + d y + f).
type affine struct{ a, b, c, d, e, f int }

func (m affine) of(x, y int) (int, int) {
	return m.a*x + m.b*y + m.e, m.c*x + m.d*y + m.f
}

// after returns the map that does n and then m.
func (m affine) after(n affine) affine {
	e, f := m.of(n.e, n.f)
	return affine{m.a*n.a + m.b*n.c, m.a*n.b + m.b*n.d, m.c*n.a + m.d*n.c, m.c*n.b + m.d*n.d, e, f}
}

// linear returns the map that a flip and some turns make.
func linear(flip bool, turns int) affine {
	m := affine{a: 1, d: 1}
	if flip {
		m.a = -1
	}
	for range turns {
		m = affine{b: -1, c: 1}.after(m)
	}
	return m
}

func affineOf(m stamp.Move) affine {
	l := linear(m.Flip, m.Turn)
	l.e, l.f = m.DX, m.DY
	return l
}

// mod returns x modulo n, by steps.
func mod(x, n int) int {
	for x < 0 {
		x += n
	}
	for x >= n {
		x -= n
	}
	return x
}

// moveOf returns the move of a size that does what m does, but for repeats.
func moveOf(w, h int, m affine) stamp.Move {
	for _, flip := range []bool{false, true} {
		for turns := range 4 {
			l := linear(flip, turns)
			if l.a == m.a && l.b == m.b && l.c == m.c && l.d == m.d {
				return stamp.Move{DX: mod(m.e, w), DY: mod(m.f, h), Turn: turns, Flip: flip}
			}
		}
	}
	panic("no move")
}

func afterOf(w, h int, a, b stamp.Move) stamp.Move {
	return moveOf(w, h, affineOf(a).after(affineOf(b)))
}

// movesOf returns all moves of a size, in order.
func movesOf(w, h int) []stamp.Move {
	var out []stamp.Move
	for _, flip := range []bool{false, true} {
		for turns := range 4 {
			for dx := range w {
				for dy := range h {
					if turns%2 == 0 || w == h {
						out = append(out, stamp.Move{DX: dx, DY: dy, Turn: turns, Flip: flip})
					}
				}
			}
		}
	}
	return out
}

// byMove compares two moves.
func byMove(a, b stamp.Move) int {
	flips := func(m stamp.Move) int { return map[bool]int{false: 0, true: 1}[m.Flip] }
	return cmp.Or(cmp.Compare(flips(a), flips(b)), cmp.Compare(a.Turn, b.Turn), cmp.Compare(a.DX, b.DX), cmp.Compare(a.DY, b.DY))
}

// goal returns the index of the cell to which a move takes the cell i.
func goal(w, h int, m stamp.Move, i int) int {
	x, y := affineOf(m).of(i%w, i/w)
	return mod(y, h)*w + mod(x, w)
}

func applyOf(m stamp.Move, s stamp.Stamp) stamp.Stamp {
	out := stamp.Stamp{W: s.W, H: s.H, Cells: make([]int, len(s.Cells))}
	for i, c := range s.Cells {
		out.Cells[goal(s.W, s.H, m, i)] = c
	}
	return out
}

// closeOf returns the least group that has some moves, in order: it adds what two of its moves make until there is nothing new.
func closeOf(w, h int, l []stamp.Move) []stamp.Move {
	in := map[stamp.Move]bool{{}: true}
	group := []stamp.Move{{}}
	add := func(m stamp.Move) {
		if !in[m] {
			in[m] = true
			group = append(group, m)
		}
	}
	for _, m := range l {
		add(m)
	}
	for i := 0; i < len(group); i++ {
		for j := 0; j <= i; j++ {
			add(afterOf(w, h, group[i], group[j]))
			add(afterOf(w, h, group[j], group[i]))
		}
	}
	slices.SortFunc(group, byMove)
	return group
}

// isGroup tells by its definition whether moves, which are rising and without doubles, are a group.
func isGroup(w, h int, l []stamp.Move) bool {
	if !slices.Contains(l, stamp.Move{}) {
		return false
	}
	for _, a := range l {
		for _, b := range l {
			if !slices.Contains(l, afterOf(w, h, a, b)) {
				return false
			}
		}
	}
	return true
}

// byStamp compares two stamps.
func byStamp(s, t stamp.Stamp) int {
	return cmp.Or(cmp.Compare(s.W, t.W), cmp.Compare(s.H, t.H), slices.Compare(s.Cells, t.Cells))
}

func same(s, t stamp.Stamp) bool {
	return byStamp(s, t) == 0
}

// orbitOf returns the stamps that a group makes of one, in order.
func orbitOf(g []stamp.Move, s stamp.Stamp) []stamp.Stamp {
	var l []stamp.Stamp
	for _, m := range g {
		l = append(l, applyOf(m, s))
	}
	slices.SortFunc(l, byStamp)
	return slices.CompactFunc(l, same)
}

// allStamps calls visit with all stamps of a size, in order.
func allStamps(w, h, colours int, visit func(s stamp.Stamp)) {
	cells := make([]int, w*h)
	var fill func(i int)
	fill = func(i int) {
		if i == len(cells) {
			visit(stamp.Stamp{W: w, H: h, Cells: slices.Clone(cells)})
			return
		}
		for c := range colours {
			cells[i] = c
			fill(i + 1)
		}
	}
	fill(0)
}

func randomStamp(r *rand.Rand, w, h, colours int) stamp.Stamp {
	s := stamp.Stamp{W: w, H: h}
	for range w * h {
		s.Cells = append(s.Cells, r.Intn(colours))
	}
	return s
}

func randomMove(r *rand.Rand, w, h int) stamp.Move {
	m := stamp.Move{DX: r.Intn(w), DY: r.Intn(h), Turn: r.Intn(4), Flip: r.Intn(2) == 1}
	if w != h {
		m.Turn &= 2
	}
	return m
}

// randomGroup returns the group that a few moves make.
func randomGroup(r *rand.Rand, w, h int) []stamp.Move {
	var l []stamp.Move
	for range r.Intn(4) {
		l = append(l, randomMove(r, w, h))
	}
	return closeOf(w, h, l)
}

// randomAlike returns a stamp that all moves of a group leave as it is.
func randomAlike(r *rand.Rand, w, h, colours int, g []stamp.Move) stamp.Stamp {
	s := stamp.Stamp{W: w, H: h, Cells: slices.Repeat([]int{-1}, w*h)}
	for i := range s.Cells {
		if s.Cells[i] < 0 {
			c := r.Intn(colours)
			for _, m := range g {
				s.Cells[goal(w, h, m, i)] = c
			}
		}
	}
	return s
}

var sizes = [][2]int{{1, 1}, {2, 1}, {1, 2}, {3, 1}, {2, 2}, {3, 2}, {2, 3}, {3, 3}, {4, 2}, {1, 8}, {8, 1}, {4, 4}, {5, 4}, {6, 6}}

// badSizes are no sizes.
var badSizes = [][2]int{{0, 0}, {0, 1}, {1, 0}, {-1, 1}, {1, -1}, {-2, -2}, {9, 1}, {1, 9}, {9, 9}, {8, 64}, {math.MaxInt, 1}, {1, math.MinInt}, {1 << 32, 1 << 32}, {math.MinInt, math.MinInt}}

// badMoves returns moves that are none of a size.
func badMoves(w, h int) []stamp.Move {
	l := []stamp.Move{{DX: -1}, {DX: w}, {DY: -1}, {DY: h}, {Turn: -1}, {Turn: -2}, {Turn: 4}, {Turn: 6}, {Flip: true, Turn: 4}, {Flip: true, DX: w}, {DX: math.MaxInt}, {DY: math.MinInt}, {Turn: math.MaxInt - 1}, {Turn: math.MinInt}}
	if w != h {
		l = append(l, stamp.Move{Turn: 1}, stamp.Move{Turn: 3}, stamp.Move{Turn: 1, Flip: true}, stamp.Move{Turn: 3, Flip: true})
	}
	return l
}

// badGroups returns, by what is wrong with them, moves that are no group of a size.
func badGroups(w, h int) map[string][]stamp.Move {
	all := movesOf(w, h)
	flip := stamp.Move{Flip: true}
	out := map[string][]stamp.Move{
		"no move":                       {},
		"no slice":                      nil,
		"no identity":                   all[1:],
		"one move that is not identity": {flip},
		"the identity twice":            {{}, {}},
		"a double":                      {{}, flip, flip},
		"the identity last":             {flip, {}},
		"all, falling":                  reversed(all),
		"all but the last":              all[:len(all)-1],
		"two that make a third":         {{}, {Turn: 2}, flip},
		"all but one":                   slices.Delete(slices.Clone(all), len(all)/2, len(all)/2+1),
		"all of a larger size":          movesOf(w+1, h+1),
		"all of a wider size":           movesOf(w+1, h),
		"far too many":                  slices.Repeat(all, 200),
	}
	for _, m := range badMoves(w, h) {
		out["a bad move at the end: "+text(m)] = []stamp.Move{{}, m}
		out["a bad move: "+text(m)] = []stamp.Move{{}, m, {Flip: true, Turn: 2}}
		out["a bad move in front: "+text(m)] = append([]stamp.Move{m}, all...)
	}
	if w > 2 {
		out["a shift without its double"] = []stamp.Move{{}, {DX: 1}}
	}
	return out
}

func reversed(l []stamp.Move) []stamp.Move {
	out := slices.Clone(l)
	slices.Reverse(out)
	return out
}

func text(x any) string {
	return fmt.Sprint(x)
}

// badStamps returns, by what is wrong with them, stamps that are not valid.
func badStamps() map[string]stamp.Stamp {
	out := map[string]stamp.Stamp{
		"no cells":             {W: 1, H: 1},
		"nothing":              {},
		"a cell too few":       {W: 2, H: 2, Cells: []int{0, 0, 0}},
		"a cell too many":      {W: 2, H: 2, Cells: []int{0, 0, 0, 0, 0}},
		"the colour 8":         {W: 2, H: 1, Cells: []int{0, 8}},
		"the colour -1":        {W: 2, H: 1, Cells: []int{-1, 0}},
		"a far colour":         {W: 1, H: 2, Cells: []int{0, math.MaxInt}},
		"a low colour":         {W: 1, H: 2, Cells: []int{0, math.MinInt}},
		"9 by 1 cells":         {W: 9, H: 1, Cells: make([]int, 9)},
		"1 by 9 cells":         {W: 1, H: 9, Cells: make([]int, 9)},
		"64 by 1 cells":        {W: 64, H: 1, Cells: make([]int, 64)},
		"-2 by -2 cells":       {W: -2, H: -2, Cells: make([]int, 4)},
		"0 by 5 cells":         {H: 5},
		"a product that wraps": {W: 1 << 32, H: 1 << 32},
	}
	for _, z := range badSizes {
		for _, n := range []int{0, 1, 4} {
			out[text(z)+" with "+text(n)] = stamp.Stamp{W: z[0], H: z[1], Cells: make([]int, n)}
		}
	}
	return out
}

// must returns the result of a call that has to succeed.
func must[T any](x T, e api.Errno) T {
	if e != api.OK {
		panic(e)
	}
	return x
}
