package crackle_test

import (
	"fmt"
	"math"
	"math/rand"
	"slices"
	"testing"

	"canting/api"
	"canting/crackle"
)

func TestP8_1_Valid(t *testing.T) {
	for _, m := range allKinds() {
		if !crackle.Valid(m) {
			t.Errorf("%v is not valid", m)
		}
	}
	bad := badMaps()
	for _, what := range sorted(bad) {
		if crackle.Valid(bad[what]) {
			t.Errorf("%s: valid", what)
		}
	}
}

// TestP8_1_AllSlices compares with the definition, for all slices of up to 4 elements that may be darts.
func TestP8_1_AllSlices(t *testing.T) {
	for n := range 5 {
		count := int(math.Pow(6, float64(n)))
		for number := range count {
			next := make([]int, n)
			for d := range next {
				next[d] = number%6 - 1
				number /= 6
			}
			want := n%2 == 0
			for d := range next {
				want = want && slices.Contains(next, d)
			}
			if got := crackle.Valid(crackle.Map{Next: next}); got != want {
				t.Errorf("%v: Valid %v", next, got)
			}
		}
	}
}

func TestP8_1_Names(t *testing.T) {
	for _, m := range allKinds() {
		for _, x := range []struct {
			what string
			call func(crackle.Map) ([]int, api.Errno)
			want []int
		}{
			{"Vertex", crackle.Vertex, vertexOf(m)},
			{"Face", crackle.Face, faceOf(m)},
			{"Part", crackle.Part, partOf(m)},
		} {
			if got, e := x.call(m); !slices.Equal(got, x.want) || e != api.OK {
				t.Errorf("%v: %s %v, %v, want %v", m, x.what, got, e, x.want)
			}
		}
	}
}

func TestP8_1_NamesKnown(t *testing.T) {
	for _, x := range []struct {
		m    crackle.Map
		want string
	}{
		{dots(), "[] [] []"},
		{dots(0, 1), "[0 1] [0 0] [0 0]"},
		{dots(1, 0), "[0 0] [0 1] [0 0]"},
		{dots(2, 3, 1, 0), "[0 0 0 0] [0 0 0 0] [0 0 0 0]"},
		{dots(0, 1, 3, 2), "[0 1 2 2] [0 0 2 3] [0 0 2 2]"},
		{dots(3, 1, 2, 0), "[0 1 2 0] [0 0 0 0] [0 0 0 0]"},
		{dots(4, 3, 2, 1, 0, 5), "[0 1 2 1 0 5] [0 0 0 0 0 0] [0 0 0 0 0 0]"},
		{dots(2, 5, 4, 1, 0, 3), "[0 1 0 1 0 1] [0 1 1 3 3 0] [0 0 0 0 0 0]"},
	} {
		got := fmt.Sprint(must(crackle.Vertex(x.m)), must(crackle.Face(x.m)), must(crackle.Part(x.m)))
		if got != x.want {
			t.Errorf("%v: %s, want %s", x.m, got, x.want)
		}
	}
}

func TestP8_1_Errors(t *testing.T) {
	bad := badMaps()
	for _, what := range sorted(bad) {
		for name, call := range map[string]func(crackle.Map) ([]int, api.Errno){"Vertex": crackle.Vertex, "Face": crackle.Face, "Part": crackle.Part} {
			if l, e := call(bad[what]); len(l) != 0 || e != api.ErrArg {
				t.Errorf("%s: %s %v, %v", what, name, l, e)
			}
		}
	}
}

func TestP8_2_Euler(t *testing.T) {
	genera := map[int]int{}
	for _, m := range allKinds() {
		v, e, f, c, r := crackle.Euler(m)
		got := []int{v, e, f, c}
		want := []int{len(different(vertexOf(m))), len(m.Next) / 2, len(different(faceOf(m))), len(different(partOf(m)))}
		if !slices.Equal(got, want) || r != api.OK {
			t.Errorf("%v: Euler %v, %v, want %v", m, got, r, want)
		}
		if twice := 2*c - v + e - f; twice < 0 || twice%2 != 0 {
			t.Errorf("%v: Euler %v: no genus", m, got)
		}
		genera[genus(m)]++
	}
	if genera[0] < 100 || genera[1] < 100 || genera[2] < 20 {
		t.Errorf("not enough of some genera: %v", genera)
	}
}

func TestP8_2_EulerKnown(t *testing.T) {
	r := rand.New(rand.NewSource(83))
	for _, x := range []struct {
		m    crackle.Map
		want [4]int
	}{
		{dots(), [4]int{}},
		{dots(0, 1), [4]int{2, 1, 1, 1}},
		{dots(1, 0), [4]int{1, 1, 2, 1}},
		{dots(2, 3, 1, 0), [4]int{1, 2, 1, 1}},
		{dots(1, 2, 3, 0), [4]int{1, 2, 3, 1}},
		{dots(0, 1, 3, 2), [4]int{3, 2, 3, 2}},
		{apart(40, dots(0, 1)), [4]int{80, 40, 40, 40}},
		{apart(40, dots(1, 0)), [4]int{40, 40, 80, 40}},
		{path(r, 40), [4]int{41, 40, 1, 1}},
		{ring(r, 40), [4]int{40, 40, 2, 1}},
		{must(crackle.Grid(5, 5)), [4]int{25, 40, 17, 1}},
		// Twenty pairs of loops around one point, each pair crossed.
		{crossedLoops(20), [4]int{1, 40, 1, 1}},
	} {
		v, e, f, c, r := crackle.Euler(x.m)
		if got := [4]int{v, e, f, c}; got != x.want || r != api.OK {
			t.Errorf("%v: Euler %v, %v, want %v", x.m, got, r, x.want)
		}
	}
}

// crossedLoops has one vertex, and the genus n.
func crossedLoops(n int) crackle.Map {
	m := crackle.Map{Next: make([]int, 4*n)}
	for k := range n {
		order := []int{4 * k, 4*k + 2, 4*k + 1, 4*k + 3, 4 * ((k + 1) % n)}
		for i, d := range order[:4] {
			m.Next[d] = order[i+1]
		}
	}
	return m
}

func TestP8_2_Errors(t *testing.T) {
	bad := badMaps()
	for _, what := range sorted(bad) {
		if v, e, f, c, r := crackle.Euler(bad[what]); [4]int{v, e, f, c} != [4]int{} || r != api.ErrArg {
			t.Errorf("%s: Euler %d, %d, %d, %d, %v", what, v, e, f, c, r)
		}
	}
}
