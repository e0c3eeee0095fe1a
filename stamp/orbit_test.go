package stamp_test

import (
	"math"
	"math/big"
	"math/rand"
	"slices"
	"testing"

	"canting/api"
	"canting/exact"
	"canting/stamp"
)

// groups calls try with groups of all sizes of the tests, among them the least and the largest.
func groups(try func(r *rand.Rand, w, h int, g []stamp.Move)) {
	r := rand.New(rand.NewSource(36))
	for _, z := range sizes {
		w, h := z[0], z[1]
		try(r, w, h, movesOf(w, h))
		try(r, w, h, []stamp.Move{{}})
		for range 15 {
			try(r, w, h, randomGroup(r, w, h))
		}
	}
}

// subgroups calls try with all groups of small sizes: of all sets of moves with the identity.
func subgroups(try func(w, h int, l []stamp.Move, group bool)) {
	for _, z := range [][2]int{{1, 1}, {2, 1}, {1, 2}, {3, 1}} {
		w, h := z[0], z[1]
		all := movesOf(w, h)
		for set := range 1 << len(all) {
			if w == 3 && set%2 == 0 {
				continue // without the identity; the smaller sizes have such sets too
			}
			var l []stamp.Move
			for i, m := range all {
				if set>>i&1 == 1 {
					l = append(l, m)
				}
			}
			try(w, h, l, isGroup(w, h, l))
		}
	}
}

// TestP3_3_AllSets checks all sets of moves of small sizes: just groups are taken for groups.
func TestP3_3_AllSets(t *testing.T) {
	subgroups(func(w, h int, l []stamp.Move, group bool) {
		s := stamp.Stamp{W: w, H: h, Cells: make([]int, w*h)}
		got, e := stamp.Keeps(l, s)
		if group && (e != api.OK || !slices.Equal(got, l)) || !group && (e != api.ErrArg || len(got) != 0) {
			t.Errorf("Keeps(%v, %v): %v, %v", l, s, got, e)
		}
	})
}

func TestP3_3_Keeps(t *testing.T) {
	groups(func(r *rand.Rand, w, h int, g []stamp.Move) {
		for _, s := range []stamp.Stamp{randomStamp(r, w, h, 2), randomStamp(r, w, h, 8), randomAlike(r, w, h, 3, g), randomAlike(r, w, h, 2, randomGroup(r, w, h))} {
			var want []stamp.Move
			for _, m := range g {
				if same(applyOf(m, s), s) {
					want = append(want, m)
				}
			}
			if got, e := stamp.Keeps(g, s); e != api.OK || !slices.Equal(got, want) {
				t.Errorf("Keeps(%v, %v): %v, %v, want %v", g, s, got, e, want)
			}
		}
	})
}

func TestP3_3_OrbitLeast(t *testing.T) {
	groups(func(r *rand.Rand, w, h int, g []stamp.Move) {
		for _, s := range []stamp.Stamp{randomStamp(r, w, h, 2), randomStamp(r, w, h, 8), randomAlike(r, w, h, 3, g), randomAlike(r, w, h, 2, randomGroup(r, w, h))} {
			want := orbitOf(g, s)
			if got, e := stamp.Orbit(g, s); e != api.OK || !slices.EqualFunc(got, want, same) {
				t.Errorf("Orbit(%v, %v): %v, %v, want %v", g, s, got, e, want)
			}
			if got, e := stamp.Least(g, s); e != api.OK || !same(got, want[0]) {
				t.Errorf("Least(%v, %v): %v, %v, want %v", g, s, got, e, want[0])
			}
		}
	})
}

func TestP3_3_LargestSize(t *testing.T) {
	g := movesOf(8, 8)
	s := stamp.Stamp{W: 8, H: 8, Cells: make([]int, 64)}
	s.Cells[19] = 7
	if l := must(stamp.Keeps(g, s)); len(l) != 8 {
		t.Errorf("Keeps: %v", l)
	}
	l := must(stamp.Orbit(g, s))
	if len(l) != 64 {
		t.Errorf("%d stamps of one spot", len(l))
	}
	for i, x := range l {
		if x.W != 8 || x.H != 8 || slices.Index(x.Cells, 7) != 63-i {
			t.Errorf("stamp %d of the orbit: %v", i, x)
		}
	}
	if x := must(stamp.Least(g, s)); !same(x, l[0]) {
		t.Errorf("Least: %v", x)
	}
}

func TestP3_3_Arguments(t *testing.T) {
	check := func(what string, g []stamp.Move, s stamp.Stamp) {
		if l, e := stamp.Keeps(g, s); e != api.ErrArg || len(l) != 0 {
			t.Errorf("Keeps with %s: %v, %v", what, l, e)
		}
		if l, e := stamp.Orbit(g, s); e != api.ErrArg || len(l) != 0 {
			t.Errorf("Orbit with %s: %v, %v", what, l, e)
		}
		if x, e := stamp.Least(g, s); e != api.ErrArg || !same(x, stamp.Stamp{}) {
			t.Errorf("Least with %s: %v, %v", what, x, e)
		}
	}
	for what, s := range badStamps() {
		check(what, []stamp.Move{{}}, s)
		check(what, nil, s)
	}
	r := rand.New(rand.NewSource(37))
	for _, z := range sizes {
		for what, g := range badGroups(z[0], z[1]) {
			check(what, g, randomStamp(r, z[0], z[1], 8))
		}
	}
	// A group, but of another size.
	check("a square group", movesOf(2, 2), randomStamp(r, 2, 4, 8))
	check("a group of shifts", []stamp.Move{{}, {DX: 1}, {DX: 2}}, randomStamp(r, 4, 3, 8))
}

func TestP3_4_Cells(t *testing.T) {
	groups(func(_ *rand.Rand, w, h int, g []stamp.Move) {
		want := make([]int, w*h)
		for i := range want {
			want[i] = i
			for j := range w * h {
				for _, m := range g {
					if goal(w, h, m, i) == j || goal(w, h, m, j) == i {
						want[i] = min(want[i], j)
					}
				}
			}
		}
		if got, e := stamp.Cells(w, h, g); e != api.OK || !slices.Equal(got, want) {
			t.Errorf("Cells(%d, %d, %v): %v, %v, want %v", w, h, g, got, e, want)
		}
	})
}

func TestP3_4_CellsByHand(t *testing.T) {
	for _, x := range []struct {
		w, h int
		g    []stamp.Move
		want []int
	}{
		{3, 2, []stamp.Move{{}}, []int{0, 1, 2, 3, 4, 5}},
		{3, 2, []stamp.Move{{}, {Flip: true}}, []int{0, 1, 1, 3, 4, 4}},
		{3, 2, []stamp.Move{{}, {DX: 1, DY: 1, Turn: 2}}, []int{0, 1, 2, 1, 0, 2}},
		{2, 2, []stamp.Move{{}, {Turn: 1}, {Turn: 2}, {Turn: 3}}, []int{0, 1, 1, 3}},
		{4, 1, []stamp.Move{{}, {DX: 2}}, []int{0, 1, 0, 1}},
		{8, 8, movesOf(8, 8), make([]int, 64)},
	} {
		if got, e := stamp.Cells(x.w, x.h, x.g); e != api.OK || !slices.Equal(got, x.want) {
			t.Errorf("Cells(%d, %d, %v): %v, %v", x.w, x.h, x.g, got, e)
		}
	}
}

// badCounts calls try with sizes, numbers of colours and groups of which one is not valid.
func badCounts(try func(w, h, colours int, g []stamp.Move)) {
	for _, z := range badSizes {
		try(z[0], z[1], 2, []stamp.Move{{}})
		try(z[0], z[1], 2, nil)
	}
	for _, colours := range []int{0, -1, 9, 64, math.MinInt, math.MaxInt} {
		try(2, 2, colours, []stamp.Move{{}})
		try(8, 8, colours, []stamp.Move{{}})
		try(2, 2, colours, nil)
	}
	for _, z := range sizes {
		for _, g := range badGroups(z[0], z[1]) {
			try(z[0], z[1], 1, g)
			try(z[0], z[1], 8, g)
		}
	}
	try(4, 3, 2, []stamp.Move{{}, {DX: 1}, {DX: 2}})
}

func TestP3_4_Arguments(t *testing.T) {
	badCounts(func(w, h, colours int, g []stamp.Move) {
		if colours < 1 || colours > 8 {
			return
		}
		if l, e := stamp.Cells(w, h, g); e != api.ErrArg || len(l) != 0 {
			t.Errorf("Cells(%d, %d, %v): %v, %v", w, h, g, l, e)
		}
	})
}

// bigOf returns an Int as a big.Int.
func bigOf(a api.Int) *big.Int {
	n, ok := new(big.Int).SetString(must(exact.Print(a)), 10)
	if !ok {
		panic("no number")
	}
	return n
}

// cyclesOf returns how many cycles of cells a move has.
func cyclesOf(w, h int, m stamp.Move) int {
	n := 0
	for i := range w * h {
		least := i
		for j := goal(w, h, m, i); j != i; j = goal(w, h, m, j) {
			least = min(least, j)
		}
		if least == i {
			n++
		}
	}
	return n
}

// burnsideOf returns the sum of the chapter, divided by the length of the group.
func burnsideOf(w, h, colours int, g []stamp.Move) *big.Int {
	sum := new(big.Int)
	for _, m := range g {
		sum.Add(sum, new(big.Int).Exp(big.NewInt(int64(colours)), big.NewInt(int64(cyclesOf(w, h, m))), nil))
	}
	count, rest := new(big.Int).QuoRem(sum, big.NewInt(int64(len(g))), new(big.Int))
	if rest.Sign() != 0 {
		panic("the group does not divide the sum")
	}
	return count
}

func TestP3_5_Burnside(t *testing.T) {
	try := func(r *rand.Rand, w, h int, g []stamp.Move) {
		for _, colours := range []int{1, 2, 1 + r.Intn(8), 8} {
			got, e := stamp.Burnside(w, h, colours, g)
			if e != api.OK || !exact.Valid(got) || bigOf(got).Cmp(burnsideOf(w, h, colours, g)) != 0 {
				t.Errorf("Burnside(%d, %d, %d, %v): %v, %v", w, h, colours, g, got, e)
			}
		}
	}
	groups(try)
	r := rand.New(rand.NewSource(38))
	try(r, 8, 8, []stamp.Move{{}})
	try(r, 8, 8, movesOf(8, 8))
	try(r, 7, 8, movesOf(7, 8))
}

func TestP3_5_BurnsideKnown(t *testing.T) {
	rotations := func(n int) []stamp.Move {
		var l []stamp.Move
		for i := range n {
			l = append(l, stamp.Move{DX: i})
		}
		return l
	}
	for _, x := range []struct {
		w, h, colours int
		g             []stamp.Move
		want          string
	}{
		{1, 1, 8, movesOf(1, 1), "8"},
		{2, 1, 2, movesOf(2, 1), "3"},
		{6, 1, 2, rotations(6), "14"}, // necklaces of six beads
		{8, 1, 2, rotations(8), "36"},
		{5, 1, 3, rotations(5), "51"},
		{6, 1, 2, closeOf(6, 1, []stamp.Move{{DX: 1}, {Flip: true}}), "13"}, // that may be turned over
		{2, 2, 2, closeOf(2, 2, []stamp.Move{{DX: 1, Turn: 1}}), "6"},       // square tables
		{3, 3, 2, closeOf(3, 3, []stamp.Move{{DX: 2, Turn: 1}}), "140"},
		{3, 3, 2, closeOf(3, 3, []stamp.Move{{DX: 2, Turn: 1}, {DX: 2, Flip: true}}), "102"},
		{8, 8, 1, movesOf(8, 8), "1"},
		{8, 8, 2, []stamp.Move{{}}, "18446744073709551616"},
		{8, 8, 8, []stamp.Move{{}}, "6277101735386680763835789423207666416102355444464034512896"},
	} {
		got, e := stamp.Burnside(x.w, x.h, x.colours, x.g)
		if e != api.OK || must(exact.Print(got)) != x.want {
			t.Errorf("Burnside(%d, %d, %d, %v): %v, %v, want %s", x.w, x.h, x.colours, x.g, got, e, x.want)
		}
	}
}

// listOf returns the first stamps of all orbits, in order.
func listOf(w, h, colours int, g []stamp.Move) []stamp.Stamp {
	var out []stamp.Stamp
	allStamps(w, h, colours, func(s stamp.Stamp) {
		for _, m := range g {
			if byStamp(applyOf(m, s), s) < 0 {
				return
			}
		}
		out = append(out, s)
	})
	return out
}

// fits reports whether there are at most 4096 stamps.
func fits(w, h, colours int) bool {
	return math.Pow(float64(colours), float64(w*h)) <= 4096
}

func TestP3_5_List(t *testing.T) {
	try := func(w, h, colours int, g []stamp.Move) {
		if !fits(w, h, colours) {
			return
		}
		got, e := stamp.List(w, h, colours, g)
		if want := listOf(w, h, colours, g); e != api.OK || !slices.EqualFunc(got, want, same) {
			t.Errorf("List(%d, %d, %d, %v): %v, %v", w, h, colours, g, len(got), e)
		}
	}
	subgroups(func(w, h int, l []stamp.Move, group bool) {
		if group {
			try(w, h, 1+len(l)%8, l)
		}
	})
	r := rand.New(rand.NewSource(39))
	for _, z := range [][2]int{{2, 2}, {3, 2}, {3, 3}, {2, 5}, {6, 2}, {1, 8}, {5, 5}, {4, 1}} {
		for colours := 1; colours <= 8; colours++ {
			try(z[0], z[1], colours, randomGroup(r, z[0], z[1]))
			try(z[0], z[1], colours, movesOf(z[0], z[1]))
		}
	}
}

// TestP3_5_ListSizes checks the bound of 4096 stamps with all sizes and colours.
func TestP3_5_ListSizes(t *testing.T) {
	g := []stamp.Move{{}}
	for w := 1; w <= 8; w++ {
		for h := 1; h <= 8; h++ {
			for colours := 1; colours <= 8; colours++ {
				l, e := stamp.List(w, h, colours, g)
				switch {
				case !fits(w, h, colours):
					if e != api.ErrSize || len(l) != 0 {
						t.Errorf("List(%d, %d, %d): %d stamps, %v", w, h, colours, len(l), e)
					}
				case e != api.OK || float64(len(l)) != math.Pow(float64(colours), float64(w*h)):
					t.Errorf("List(%d, %d, %d): %d stamps, %v", w, h, colours, len(l), e)
				case !slices.IsSortedFunc(l, byStamp):
					t.Errorf("List(%d, %d, %d) is not in order", w, h, colours)
				}
			}
		}
	}
	if l, e := stamp.List(8, 8, 1, movesOf(8, 8)); e != api.OK || len(l) != 1 || !same(l[0], stamp.Stamp{W: 8, H: 8, Cells: make([]int, 64)}) {
		t.Errorf("List(8, 8, 1): %v, %v", l, e)
	}
}

func TestP3_5_Arguments(t *testing.T) {
	badCounts(func(w, h, colours int, g []stamp.Move) {
		if n, e := stamp.Burnside(w, h, colours, g); e != api.ErrArg || len(n.Words) != 0 || n.Neg {
			t.Errorf("Burnside(%d, %d, %d, %v): %v, %v", w, h, colours, g, n, e)
		}
		if l, e := stamp.List(w, h, colours, g); e != api.ErrArg || len(l) != 0 {
			t.Errorf("List(%d, %d, %d, %v): %v, %v", w, h, colours, g, l, e)
		}
	})
}
