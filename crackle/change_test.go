package crackle_test

import (
	"math"
	"math/rand"
	"slices"
	"testing"

	"canting/api"
	"canting/crackle"
)

func sameMap(m, n crackle.Map) bool {
	return slices.Equal(m.Next, n.Next)
}

func dualOf(m crackle.Map) crackle.Map {
	var out crackle.Map
	for d := range m.Next {
		out.Next = append(out.Next, m.Next[d^1])
	}
	return out
}

// deleted follows the definition, dart by dart.
func deleted(m crackle.Map, e int) crackle.Map {
	isGone := func(d int) bool { return d/2 == e }
	var out crackle.Map
	for d := range m.Next {
		if isGone(d) {
			continue
		}
		next := m.Next[d]
		for isGone(next) {
			next = m.Next[next]
		}
		if next > 2*e {
			next -= 2
		}
		out.Next = append(out.Next, next)
	}
	return out
}

func TestP8_3_Dual(t *testing.T) {
	for _, m := range allKinds() {
		if got, e := crackle.Dual(m); !sameMap(got, dualOf(m)) || e != api.OK {
			t.Errorf("%v: Dual %v, %v", m, got, e)
		}
	}
}

func TestP8_3_DeleteContract(t *testing.T) {
	for _, m := range allKinds() {
		for k := range edges(m) {
			if got, e := crackle.Delete(m, k); !sameMap(got, deleted(m, k)) || e != api.OK {
				t.Errorf("%v: Delete %d: %v, %v, want %v", m, k, got, e, deleted(m, k))
			}
			want := dualOf(deleted(dualOf(m), k))
			if got, e := crackle.Contract(m, k); !sameMap(got, want) || e != api.OK {
				t.Errorf("%v: Contract %d: %v, %v, want %v", m, k, got, e, want)
			}
		}
	}
}

// TestP8_3_Counts checks that Contract makes one vertex of the two ends of an edge, and Delete one face of the two at its sides.
func TestP8_3_Counts(t *testing.T) {
	check := func(m, changed crackle.Map, what string, e int, want [4]int) {
		t.Helper()
		v, n, f, c, r := crackle.Euler(changed)
		if got := [4]int{v, n, f, c}; got != want || r != api.OK {
			t.Errorf("%v: %s %d has %v, %v, want %v", m, what, e, got, r, want)
		}
	}
	for _, m := range allKinds() {
		v, n, f, c, _ := crackle.Euler(m)
		vertex, face := vertexOf(m), faceOf(m)
		for e := range n {
			if isAlone(m, e) {
				continue
			}
			if vertex[2*e] != vertex[2*e+1] {
				check(m, must(crackle.Contract(m, e)), "Contract", e, [4]int{v - 1, n - 1, f, c})
			}
			if face[2*e] != face[2*e+1] {
				check(m, must(crackle.Delete(m, e)), "Delete", e, [4]int{v, n - 1, f - 1, c})
			}
		}
	}
}

// isAlone reports whether an edge is a part.
func isAlone(m crackle.Map, e int) bool {
	return m.Next[2*e]/2 == e && m.Next[2*e+1]/2 == e
}

func TestP8_3_Known(t *testing.T) {
	square := must(crackle.Grid(2, 2))
	for _, x := range []struct {
		what      string
		got, want crackle.Map
	}{
		{"Dual of nothing", must(crackle.Dual(dots())), dots()},
		{"Dual of an edge", must(crackle.Dual(dots(0, 1))), dots(1, 0)},
		{"Dual of a loop", must(crackle.Dual(dots(1, 0))), dots(0, 1)},
		{"Dual of crossed loops", must(crackle.Dual(dots(2, 3, 1, 0))), dots(3, 2, 0, 1)},
		{"an edge without it", must(crackle.Delete(dots(0, 1), 0)), dots()},
		{"a loop without it", must(crackle.Delete(dots(1, 0), 0)), dots()},
		{"two loops without the first", must(crackle.Delete(dots(2, 3, 1, 0), 0)), dots(1, 0)},
		{"two loops without the second", must(crackle.Delete(dots(1, 2, 3, 0), 1)), dots(1, 0)},
		{"a loop and an edge, without the loop", must(crackle.Delete(dots(1, 2, 0, 3), 0)), dots(0, 1)},
		{"a loop and an edge, without the edge", must(crackle.Delete(dots(1, 2, 0, 3), 1)), dots(1, 0)},
		{"a square without an edge", must(crackle.Delete(square, 0)), dots(3, 5, 2, 0, 4, 1)},
		{"a square with an edge contracted", must(crackle.Contract(square, 0)), dots(3, 5, 4, 0, 2, 1)},
		{"a path with its first edge contracted", must(crackle.Contract(dots(0, 2, 1, 3), 0)), dots(0, 1)},
	} {
		if !sameMap(x.got, x.want) {
			t.Errorf("%s: %v, want %v", x.what, x.got, x.want)
		}
	}
}

func TestP8_3_Errors(t *testing.T) {
	bad := badMaps()
	for _, what := range sorted(bad) {
		if m, e := crackle.Dual(bad[what]); len(m.Next) != 0 || e != api.ErrArg {
			t.Errorf("%s: Dual %v, %v", what, m, e)
		}
		for _, k := range []int{0, -1, 100} {
			if m, e := crackle.Delete(bad[what], k); len(m.Next) != 0 || e != api.ErrArg {
				t.Errorf("%s: Delete %d: %v, %v", what, k, m, e)
			}
			if m, e := crackle.Contract(bad[what], k); len(m.Next) != 0 || e != api.ErrArg {
				t.Errorf("%s: Contract %d: %v, %v", what, k, m, e)
			}
		}
	}
	for _, m := range []crackle.Map{dots(), dots(0, 1), dots(2, 3, 1, 0), must(crackle.Grid(5, 5))} {
		for _, k := range []int{-1, edges(m), edges(m) + 1, 2*edges(m) - 1, math.MinInt, math.MaxInt, math.MinInt / 2, math.MaxInt/2 + 1} {
			if k >= 0 && k < edges(m) {
				continue
			}
			if got, e := crackle.Delete(m, k); len(got.Next) != 0 || e != api.ErrArg {
				t.Errorf("%v: Delete %d: %v, %v", m, k, got, e)
			}
			if got, e := crackle.Contract(m, k); len(got.Next) != 0 || e != api.ErrArg {
				t.Errorf("%v: Contract %d: %v, %v", m, k, got, e)
			}
		}
	}
}

// gridByPoints builds a grid from where its edges begin and end.
func gridByPoints(w, h int) crackle.Map {
	type dart struct{ x, y, dx, dy int }
	var darts []dart
	for y := range h {
		for x := range w - 1 {
			darts = append(darts, dart{x, y, 1, 0}, dart{x + 1, y, -1, 0})
		}
	}
	for y := range h - 1 {
		for x := range w {
			darts = append(darts, dart{x, y, 0, 1}, dart{x, y + 1, 0, -1})
		}
	}
	var m crackle.Map
	for _, d := range darts {
		next := -1
		for next < 0 {
			// To the right, up, to the left, down, to the right.
			d.dx, d.dy = d.dy, -d.dx
			next = slices.Index(darts, d)
		}
		m.Next = append(m.Next, next)
	}
	return m
}

func TestP8_4_Grid(t *testing.T) {
	for w := 1; w <= 5; w++ {
		for h := 1; h <= 5; h++ {
			want := gridByPoints(w, h)
			if m, e := crackle.Grid(w, h); !sameMap(m, want) || e != api.OK {
				t.Errorf("Grid(%d, %d) %v, %v, want %v", w, h, m, e, want)
			}
			v, n, f, c, e := crackle.Euler(must(crackle.Grid(w, h)))
			wants := [4]int{w * h, (w-1)*h + w*(h-1), (w-1)*(h-1) + 1, 1}
			if w*h == 1 {
				wants = [4]int{}
			}
			if got := [4]int{v, n, f, c}; got != wants || e != api.OK {
				t.Errorf("Grid(%d, %d) has %v, %v, want %v", w, h, got, e, wants)
			}
		}
	}
}

func TestP8_4_GridKnown(t *testing.T) {
	for _, x := range []struct {
		w, h int
		want crackle.Map
	}{
		{1, 1, dots()},
		{2, 1, dots(0, 1)},
		{1, 2, dots(0, 1)},
		{3, 1, dots(0, 2, 1, 3)},
		{2, 2, dots(4, 6, 5, 7, 0, 2, 1, 3)},
	} {
		if m, e := crackle.Grid(x.w, x.h); !sameMap(m, x.want) || e != api.OK {
			t.Errorf("Grid(%d, %d) %v, %v, want %v", x.w, x.h, m, e, x.want)
		}
	}
}

func TestP8_4_Errors(t *testing.T) {
	bad := []int{0, -1, 6, 7, math.MinInt, math.MaxInt}
	for _, x := range bad {
		for _, y := range append(bad, 1, 5) {
			for _, size := range [][2]int{{x, y}, {y, x}} {
				if m, e := crackle.Grid(size[0], size[1]); len(m.Next) != 0 || e != api.ErrArg {
					t.Errorf("Grid(%d, %d): %v, %v", size[0], size[1], m, e)
				}
			}
		}
	}
}

// TestP8_3_Again deletes and contracts edge after edge, so that each map that comes out is valid.
func TestP8_3_Again(t *testing.T) {
	r := rand.New(rand.NewSource(84))
	for _, m := range largeMaps() {
		for edges(m) > 0 {
			k := r.Intn(edges(m))
			change := crackle.Delete
			if r.Intn(2) == 0 {
				change = crackle.Contract
			}
			next, e := change(m, k)
			if e != api.OK || !crackle.Valid(next) || edges(next) != edges(m)-1 {
				t.Fatalf("%v: without edge %d: %v, %v", m, k, next, e)
			}
			m = next
		}
	}
}
