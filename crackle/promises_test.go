package crackle_test

import (
	"fmt"
	"math/big"
	"math/rand"
	"slices"
	"strings"
	"testing"

	"canting/api"
	"canting/crackle"
)

// TestP8_Examples checks the examples of the chapter.
func TestP8_Examples(t *testing.T) {
	check := func(want string, results ...any) {
		t.Helper()
		if got := strings.TrimSpace(fmt.Sprintln(results...)); got != want {
			t.Errorf("%s, want %s", got, want)
		}
	}
	euler := func(m crackle.Map) string {
		v, e, f, c, r := crackle.Euler(m)
		return fmt.Sprint(v, e, f, c, r)
	}
	edge := dots(0, 1)
	check("2 1 1 1 0", euler(edge))
	check("{[1 0]} 1 1 2 1 0", must(crackle.Dual(edge)), euler(must(crackle.Dual(edge))))
	check("1 [1] []", must(crackle.Trees(edge)), must(crackle.Bonds(edge)), must(crackle.Cycles(edge)))
	loops := dots(2, 3, 1, 0)
	check("1 2 1 1 0 [0 0 0 0]", euler(loops), must(crackle.Face(loops)))
	check("1", genus(loops))
	square := must(crackle.Grid(2, 2))
	check("4 4 2 1 0 4 4 2", euler(square), must(crackle.Trees(square)), must(crackle.Girth(square)), must(crackle.Tough(square)))
	check("3/4 3", text(must(crackle.Resist(square, ones(square), 0, 1))), must(crackle.Trees(must(crackle.Contract(square, 0)))))
	check("5 5", texts(must(crackle.Potential(must(crackle.Grid(2, 1)), []int{7}, []crackle.Fixed{{Dart: 0, Value: 5}}))))
	check("0 2 2 3", texts(must(crackle.Potential(must(crackle.Grid(3, 1)), []int{1, 2}, []crackle.Fixed{{Dart: 0}, {Dart: 3, Value: 3}}))))
}

func TestP8_10_Dual(t *testing.T) {
	for _, m := range allKinds() {
		dual := must(crackle.Dual(m))
		if again, e := crackle.Dual(dual); !sameMap(again, m) || e != api.OK {
			t.Errorf("%v: Dual of Dual %v, %v", m, again, e)
		}
		v, n, f, c, _ := crackle.Euler(m)
		v2, n2, f2, c2, e := crackle.Euler(dual)
		if v != f2 || n != n2 || f != v2 || c != c2 || e != api.OK {
			t.Errorf("%v: Euler %d, %d, %d, %d, of the dual %d, %d, %d, %d", m, v, n, f, c, v2, n2, f2, c2)
		}
		// A face is what the opposites of the darts of a vertex of the dual are, and its parts are the same.
		face, vertex := must(crackle.Face(m)), must(crackle.Vertex(dual))
		if !slices.Equal(face, vertex) || !slices.Equal(must(crackle.Part(m)), must(crackle.Part(dual))) || genus(m) != genus(dual) {
			t.Errorf("%v: faces %v, vertices of the dual %v", m, face, vertex)
		}
	}
}

func TestP8_11_Whitney(t *testing.T) {
	listed := 0
	for _, m := range planarMaps() {
		dual := must(crackle.Dual(m))
		if edges(m) <= 12 {
			listed++
			cycles, bonds := must(crackle.Cycles(m)), must(crackle.Bonds(dual))
			if !slices.Equal(cycles, bonds) {
				t.Errorf("%v: Cycles %b, Bonds of the dual %b", m, cycles, bonds)
			}
		}
		girth, e := crackle.Girth(m)
		tough, f := crackle.Tough(dual)
		if girth != tough || e != f {
			t.Errorf("%v: Girth %d, %v, Tough of the dual %d, %v", m, girth, e, tough, f)
		}
	}
	if listed < 300 || len(planarMaps())-listed < 40 {
		t.Errorf("%d small planar maps of %d", listed, len(planarMaps()))
	}
}

// isBridge follows the definition.
func isBridge(m crackle.Map, e int) bool {
	vertex := func(m crackle.Map) int { return len(different(vertexOf(m))) }
	parts := func(m crackle.Map) int { return len(different(partOf(m))) }
	without := must(crackle.Delete(m, e))
	return parts(without) > parts(m) || vertex(without) < vertex(m)
}

func isLoop(m crackle.Map, e int) bool {
	pair := ends(m)[e]
	return pair[0] == pair[1]
}

func TestP8_12_Trees(t *testing.T) {
	tried := 0
	for _, m := range allKinds() {
		if !isOnePart(m) {
			continue
		}
		all := must(crackle.Trees(m))
		for e := range edges(m) {
			if isLoop(m, e) || isBridge(m, e) {
				continue
			}
			without, joined := must(crackle.Trees(must(crackle.Delete(m, e)))), must(crackle.Trees(must(crackle.Contract(m, e))))
			if all != without+joined {
				t.Errorf("%v: Trees %d, without edge %d %d, with it contracted %d", m, all, e, without, joined)
			}
			tried++
		}
	}
	if tried < 1000 {
		t.Errorf("only %d edges", tried)
	}
}

func TestP8_12_Dual(t *testing.T) {
	r := rand.New(rand.NewSource(101))
	for _, m := range planarMaps() {
		dual := must(crackle.Dual(m))
		if n, e := crackle.Trees(dual); n != must(crackle.Trees(m)) || e != api.OK {
			t.Errorf("%v: Trees of the dual %d, %v", m, n, e)
		}
		var weight, other []int
		for _, x := range r.Perm(1000)[:edges(m)] {
			weight, other = append(weight, 1+x), append(other, 1000-x)
		}
		forest, dualForest := must(crackle.Forest(m, weight)), must(crackle.Forest(dual, other))
		for e := range forest {
			if forest[e] == dualForest[e] {
				t.Errorf("%v: Forest(%v) %v, of the dual %v", m, weight, forest, dualForest)
				break
			}
		}
	}
}

func TestP8_13_Between(t *testing.T) {
	r := rand.New(rand.NewSource(102))
	for _, m := range allKinds() {
		weight, fixed := randomWeights(r, m, 1000), fixedBut(r, m, r.Intn(9))
		p := must(crackle.Potential(m, weight, fixed))
		part := partOf(m)
		for d, f := range p {
			least, greatest := 1000, -1000
			for _, x := range fixed {
				if part[x.Dart] == part[d] {
					least, greatest = min(least, x.Value), max(greatest, x.Value)
				}
			}
			if toRat(f).Cmp(fraction(least, 1)) < 0 || toRat(f).Cmp(fraction(greatest, 1)) > 0 {
				t.Errorf("%v: Potential(%v, %v) has %s at dart %d", m, weight, fixed, text(f), d)
			}
		}
	}
}

func TestP8_13_LeastEnergy(t *testing.T) {
	r := rand.New(rand.NewSource(103))
	tried := 0
	for _, m := range allKinds() {
		weight, fixed := randomWeights(r, m, 3), fixedBut(r, m, r.Intn(9))
		p := must(crackle.Potential(m, weight, fixed))
		least, e := crackle.Energy(m, weight, p)
		if e == api.ErrSize {
			continue
		}
		vertex, isFixed := vertexOf(m), map[int]bool{}
		for _, f := range fixed {
			isFixed[vertex[f.Dart]] = true
		}
		for range 3 {
			other := slices.Clone(p)
			for d, v := range vertex {
				if v == d && !isFixed[v] {
					other[d] = fromRat(new(big.Rat).Add(toRat(p[d]), fraction(r.Intn(7)-3, 1+r.Intn(5))))
				}
				other[d] = other[v]
			}
			more, e := crackle.Energy(m, weight, other)
			if e == api.ErrSize {
				continue
			}
			tried++
			if e != api.OK || toRat(more).Cmp(toRat(least)) < 0 {
				t.Errorf("%v: Potential(%v, %v) %s has the energy %s, but %s has %s, %v", m, weight, fixed, texts(p), text(least), texts(other), text(more), e)
			}
		}
	}
	if tried < 1000 {
		t.Errorf("only %d potentials", tried)
	}
}

// resistMaps have at most 9 vertices, and one part.
func resistMaps() []crackle.Map {
	var l []crackle.Map
	for _, m := range allKinds()[300:] {
		if isOnePart(m) && len(different(vertexOf(m))) <= 9 && (edges(m) > 3 || len(l)%7 == 0) {
			l = append(l, m)
		}
	}
	return l
}

func TestP8_14_Trees(t *testing.T) {
	for _, m := range resistMaps() {
		sum, all := new(big.Rat), must(crackle.Trees(m))
		for e := range edges(m) {
			f, r := crackle.Resist(m, ones(m), 2*e, 2*e+1)
			if r != api.OK {
				t.Fatalf("%v: Resist of edge %d: %v", m, e, r)
			}
			sum.Add(sum, toRat(f))
			if isLoop(m, e) || isBridge(m, e) {
				continue
			}
			if want := fraction(must(crackle.Trees(must(crackle.Contract(m, e)))), all); toRat(f).Cmp(want) != 0 {
				t.Errorf("%v: Resist of edge %d: %s, want %s", m, e, text(f), want.RatString())
			}
		}
		if want := fraction(len(different(vertexOf(m)))-1, 1); sum.Cmp(want) != 0 {
			t.Errorf("%v: all resistances are %s, want %s", m, sum.RatString(), want.RatString())
		}
	}
}

func TestP8_14_Metric(t *testing.T) {
	r := rand.New(rand.NewSource(104))
	for _, m := range resistMaps() {
		weight := randomWeights(r, m, 1000)
		resist := func(a, b int) *big.Rat { return toRat(must(crackle.Resist(m, weight, a, b))) }
		for range 2 {
			a, b, c := r.Intn(len(m.Next)), r.Intn(len(m.Next)), r.Intn(len(m.Next))
			if resist(a, b).Cmp(resist(b, a)) != 0 {
				t.Errorf("%v: Resist(%v, %d, %d) is not the same from the other side", m, weight, a, b)
			}
			if resist(a, c).Cmp(new(big.Rat).Add(resist(a, b), resist(b, c))) > 0 {
				t.Errorf("%v: Resist(%v) from %d by %d to %d is less than straight", m, weight, a, b, c)
			}
			before, e := resist(a, b), r.Intn(edges(m))
			old := weight[e]
			weight[e] = old + r.Intn(1001-old)
			if resist(a, b).Cmp(before) > 0 {
				t.Errorf("%v: Resist(%v, %d, %d) was less with %d at edge %d", m, weight, a, b, old, e)
			}
		}
	}
}
