package crackle_test

import (
	"fmt"
	"math"
	"math/big"
	"math/rand"
	"slices"
	"strings"
	"testing"

	"canting/api"
	"canting/crackle"
)

// texts prints fractions.
func texts(l []api.Rat) string {
	var out []string
	for _, f := range l {
		out = append(out, text(f))
	}
	return strings.Join(out, " ")
}

// rats reads fractions.
func rats(s string) []api.Rat {
	var out []api.Rat
	for _, word := range strings.Fields(s) {
		f, ok := new(big.Rat).SetString(word)
		if !ok {
			panic(s)
		}
		out = append(out, fromRat(f))
	}
	return out
}

// fixedBut draws values for all vertices but so many, as long as each part has one; some vertices have their value twice.
func fixedBut(r *rand.Rand, m crackle.Map, free int) []crackle.Fixed {
	vertex, part := vertexOf(m), partOf(m)
	values := map[int]int{}
	keeps := map[int]bool{}
	var l []crackle.Fixed
	vertices := different(vertex)
	r.Shuffle(len(vertices), func(i, j int) { vertices[i], vertices[j] = vertices[j], vertices[i] })
	for _, v := range vertices {
		if free > 0 && keeps[part[v]] {
			free--
			continue
		}
		keeps[part[v]] = true
		values[v] = []int{r.Intn(5), r.Intn(2001) - 1000, -1000 + 2000*r.Intn(2)}[r.Intn(3)]
	}
	for _, d := range r.Perm(len(vertex)) {
		if value, ok := values[vertex[d]]; ok && (vertex[d] == d || r.Intn(3) == 0) {
			l = append(l, crackle.Fixed{Dart: d, Value: value})
		}
	}
	return l
}

// freeOf counts the vertices that are not fixed.
func freeOf(m crackle.Map, fixed []crackle.Fixed) int {
	vertex := vertexOf(m)
	met := map[int]bool{}
	for _, f := range fixed {
		met[vertex[f.Dart]] = true
	}
	return len(different(vertex)) - len(met)
}

// isPotential reports whether p has valid fractions, the same for all darts of a vertex.
func isPotential(m crackle.Map, p []api.Rat) bool {
	if len(p) != len(m.Next) || slices.ContainsFunc(p, func(f api.Rat) bool { return !isValid(f) }) {
		return false
	}
	for d, v := range vertexOf(m) {
		if toRat(p[d]).Cmp(toRat(p[v])) != 0 {
			return false
		}
	}
	return true
}

// gain returns the sum of the conductance times the difference of the potentials at the end and at the start of the darts of a vertex.
func gain(m crackle.Map, weight []int, p []api.Rat, vertex int) *big.Rat {
	sum := new(big.Rat)
	for d, v := range vertexOf(m) {
		if v == vertex {
			difference := new(big.Rat).Sub(toRat(p[d^1]), toRat(p[d]))
			sum.Add(sum, difference.Mul(difference, fraction(weight[d/2], 1)))
		}
	}
	return sum
}

// isSettled follows the definition of the potential with fixed values.
func isSettled(m crackle.Map, weight []int, fixed []crackle.Fixed, p []api.Rat) bool {
	if !isPotential(m, p) {
		return false
	}
	vertex, isFixed := vertexOf(m), map[int]bool{}
	for _, f := range fixed {
		if toRat(p[f.Dart]).Cmp(fraction(f.Value, 1)) != 0 {
			return false
		}
		isFixed[vertex[f.Dart]] = true
	}
	for _, v := range different(vertex) {
		if !isFixed[v] && gain(m, weight, p, v).Sign() != 0 {
			return false
		}
	}
	return true
}

func TestP8_8_Potential(t *testing.T) {
	r := rand.New(rand.NewSource(91))
	seen := map[int]int{}
	for i, m := range allKinds() {
		weight := randomWeights(r, m, []int{1, 3, 1000}[i%3])
		fixed := fixedBut(r, m, []int{8, 7, 1, 0, 2, 8}[i%6])
		p, e := crackle.Potential(m, weight, fixed)
		if e != api.OK || !isSettled(m, weight, fixed, p) {
			t.Errorf("%v: Potential(%v, %v) %s, %v", m, weight, fixed, texts(p), e)
		}
		seen[freeOf(m, fixed)]++
	}
	for free := range 9 {
		if seen[free] < 10 {
			t.Errorf("not enough with %d free vertices: %v", free, seen)
		}
	}
}

func TestP8_8_Known(t *testing.T) {
	r := rand.New(rand.NewSource(92))
	thousand := slices.Repeat([]int{1000}, 40)
	for _, x := range []struct {
		m      crackle.Map
		weight []int
		fixed  []crackle.Fixed
		want   string
	}{
		{dots(), nil, nil, ""},
		{dots(0, 1), []int{7}, []crackle.Fixed{{Dart: 0, Value: 5}}, "5 5"},
		{dots(0, 1), []int{7}, []crackle.Fixed{{Dart: 1, Value: -5}}, "-5 -5"},
		{dots(0, 1), []int{7}, []crackle.Fixed{{Dart: 1, Value: -1000}, {Dart: 0, Value: 1000}}, "1000 -1000"},
		{dots(1, 0), []int{7}, []crackle.Fixed{{Dart: 1}}, "0 0"},
		{dots(1, 0), []int{7}, []crackle.Fixed{{Dart: 1, Value: 3}, {Dart: 0, Value: 3}, {Dart: 1, Value: 3}}, "3 3"},
		{dots(0, 2, 1, 3), []int{1, 2}, []crackle.Fixed{{Dart: 0}, {Dart: 3, Value: 3}}, "0 2 2 3"},
		{dots(0, 2, 1, 3), []int{1, 2}, []crackle.Fixed{{Dart: 0, Value: 1}, {Dart: 3, Value: 3}}, "1 7/3 7/3 3"},
		// A loop at the vertex between changes nothing.
		{dots(0, 4, 1, 3, 5, 2), []int{1, 2, 900}, []crackle.Fixed{{Dart: 0}, {Dart: 3, Value: 3}}, "0 2 2 3 2 2"},
		{dots(0, 1, 2, 3), []int{1, 2}, []crackle.Fixed{{Dart: 3, Value: 4}, {Dart: 0, Value: -4}}, "-4 -4 4 4"},
		{path(r, 9), slices.Repeat([]int{1000}, 9), []crackle.Fixed{{Dart: 0, Value: 9}, {Dart: 17}}, "9 8 8 7 7 6 6 5 5 4 4 3 3 2 2 1 1 0"},
		{bundle(r, 40, 0, 1), thousand, []crackle.Fixed{{Dart: 0, Value: 1000}}, strings.TrimSpace(strings.Repeat("1000 ", 80))},
		{bundle(r, 40, 0, 0), thousand, []crackle.Fixed{{Dart: 9, Value: 1000}}, strings.TrimSpace(strings.Repeat("1000 ", 80))},
	} {
		if p, e := crackle.Potential(x.m, x.weight, x.fixed); texts(p) != x.want || e != api.OK {
			t.Errorf("%v: Potential(%v, %v) %s, %v, want %s", x.m, x.weight, x.fixed, texts(p), e, x.want)
		}
	}
}

// TestP8_8_ManyFixed checks that a list may have any length.
func TestP8_8_ManyFixed(t *testing.T) {
	fixed := slices.Repeat([]crackle.Fixed{{Dart: 3, Value: 3}, {Dart: 0}}, 300_000)
	m := dots(0, 2, 1, 3)
	if p, e := crackle.Potential(m, []int{1, 2}, fixed); texts(p) != "0 2 2 3" || e != api.OK {
		t.Errorf("Potential %s, %v", texts(p), e)
	}
	for _, f := range []crackle.Fixed{{Dart: 3, Value: 4}, {Dart: 4}, {Dart: -1}, {Dart: 1, Value: 1001}, {Dart: 1, Value: -1001}} {
		if p, e := crackle.Potential(m, []int{1, 2}, append(slices.Clone(fixed), f)); len(p) != 0 || e != api.ErrArg {
			t.Errorf("Potential with %v at last: %s, %v", f, texts(p), e)
		}
	}
}

// badFixed are no fixed values of an edge between two vertices.
func badFixed() [][]crackle.Fixed {
	l := [][]crackle.Fixed{
		{{Dart: 0, Value: 1}, {Dart: 0, Value: 2}},
		{{Dart: 1, Value: 0}, {Dart: 0, Value: 2}, {Dart: 1, Value: 1}},
	}
	for _, bad := range []int{-1, 2, math.MinInt, math.MaxInt} {
		l = append(l, []crackle.Fixed{{Dart: bad}}, []crackle.Fixed{{Dart: 0}, {Dart: bad}})
	}
	for _, bad := range []int{-1001, 1001, math.MinInt, math.MaxInt} {
		l = append(l, []crackle.Fixed{{Value: bad}}, []crackle.Fixed{{Dart: 0}, {Dart: 1, Value: bad}})
	}
	return l
}

func TestP8_8_ErrArg(t *testing.T) {
	check := func(what string, m crackle.Map, weight []int, fixed []crackle.Fixed) {
		t.Helper()
		if p, e := crackle.Potential(m, weight, fixed); len(p) != 0 || e != api.ErrArg {
			t.Errorf("%s: Potential %s, %v", what, texts(p), e)
		}
	}
	bad := badMaps()
	for _, what := range sorted(bad) {
		check(what, bad[what], ones(bad[what]), []crackle.Fixed{{}})
	}
	for _, weight := range badWeights() {
		check(fmt.Sprintf("%d weights", len(weight)), dots(2, 3, 4, 5, 0, 1), weight, []crackle.Fixed{{}})
		check(fmt.Sprintf("%d weights, nothing fixed", len(weight)), dots(2, 3, 4, 5, 0, 1), weight, nil)
	}
	many := apart(20, dots(0, 1))
	for _, fixed := range badFixed() {
		check(fmt.Sprint(fixed), dots(0, 1), []int{1}, fixed)
		if slices.ContainsFunc(fixed, func(f crackle.Fixed) bool { return f.Dart == 2 }) {
			continue
		}
		check(fmt.Sprint("many parts, ", fixed), many, ones(many), fixed)
	}
	check("nothing fixed", dots(0, 1), []int{0}, nil)
	check("a value without darts", dots(), nil, []crackle.Fixed{{}})
	check("two values at a vertex", dots(1, 0), []int{1}, []crackle.Fixed{{Dart: 0}, {Dart: 1, Value: 1}})
	check("two values at a long vertex", bundle(rand.New(rand.NewSource(93)), 40, 0, 0), slices.Repeat([]int{1}, 40), []crackle.Fixed{{Dart: 3, Value: -1}, {Dart: 71, Value: 1}})
}

func TestP8_8_ErrFreeErrSize(t *testing.T) {
	r := rand.New(rand.NewSource(94))
	for _, x := range []struct {
		what  string
		m     crackle.Map
		fixed []crackle.Fixed
		want  api.Errno
	}{
		{"nothing fixed", dots(0, 1), nil, api.ErrFree},
		{"nothing fixed in the second part", dots(0, 1, 2, 3), []crackle.Fixed{{Dart: 1}, {Dart: 0}}, api.ErrFree},
		{"nothing fixed in the first part", dots(0, 1, 2, 3), []crackle.Fixed{{Dart: 2}, {Dart: 3}}, api.ErrFree},
		{"nothing fixed at a loop", dots(0, 1, 3, 2), []crackle.Fixed{{Dart: 0}}, api.ErrFree},
		{"nothing fixed in many parts", apart(40, dots(0, 1)), []crackle.Fixed{{Dart: 0}}, api.ErrFree},
		{"nothing fixed on a long way", path(r, 40), nil, api.ErrFree},
		{"9 free", path(r, 9), []crackle.Fixed{{Dart: 4}}, api.ErrSize},
		{"8 free", path(r, 8), []crackle.Fixed{{Dart: 4}}, api.OK},
		{"9 free in parts", apart(9, dots(0, 1)), everySecond(9), api.ErrSize},
		{"8 free in parts", apart(8, dots(0, 1)), everySecond(8), api.OK},
		{"40 free", path(r, 40), []crackle.Fixed{{Dart: 4}}, api.ErrSize},
	} {
		p, e := crackle.Potential(x.m, ones(x.m), x.fixed)
		if e != x.want || e != api.OK && len(p) != 0 || e == api.OK && !isSettled(x.m, ones(x.m), x.fixed, p) {
			t.Errorf("%s: Potential %s, %v, want %v", x.what, texts(p), e, x.want)
		}
	}
}

// everySecond fixes the first ends of n edges.
func everySecond(n int) []crackle.Fixed {
	var l []crackle.Fixed
	for e := range n {
		l = append(l, crackle.Fixed{Dart: 2 * e, Value: e})
	}
	return l
}

// resistWant returns what Resist has to return for valid arguments.
func resistWant(m crackle.Map, weight []int, a, b int) (string, api.Errno) {
	part, vertex := partOf(m), vertexOf(m)
	if part[a] != part[b] {
		return "", api.ErrState
	}
	count := 0
	for d, v := range vertex {
		if v == d && part[d] == part[a] {
			count++
		}
	}
	if count > 9 {
		return "", api.ErrSize
	}
	return resistOf(m, weight, a, b).RatString(), api.OK
}

func TestP8_9_Resist(t *testing.T) {
	r := rand.New(rand.NewSource(95))
	seen := map[api.Errno]int{}
	for i, m := range allKinds() {
		if len(m.Next) == 0 {
			continue
		}
		weight := randomWeights(r, m, []int{1, 3, 1000}[i%3])
		for range 3 {
			a, b := r.Intn(len(m.Next)), r.Intn(len(m.Next))
			want, wantE := resistWant(m, weight, a, b)
			got, e := crackle.Resist(m, weight, a, b)
			if e != wantE || e == api.OK && text(got) != want || e != api.OK && fmt.Sprint(got) != fmt.Sprint(api.Rat{}) {
				t.Errorf("%v: Resist(%v, %d, %d) %v, %v, want %s, %v", m, weight, a, b, got, e, want, wantE)
			}
			seen[e]++
		}
	}
	if seen[api.OK] < 1000 || seen[api.ErrState] < 100 || seen[api.ErrSize] < 100 {
		t.Errorf("not enough of each kind: %v", seen)
	}
}

func TestP8_9_ResistKnown(t *testing.T) {
	r := rand.New(rand.NewSource(96))
	nine, ten := path(r, 8), path(r, 9)
	for _, x := range []struct {
		what   string
		m      crackle.Map
		weight []int
		a, b   int
		want   string
		e      api.Errno
	}{
		{"an edge", dots(0, 1), []int{7}, 0, 1, "1/7", api.OK},
		{"a dart", dots(0, 1), []int{7}, 1, 1, "0", api.OK},
		{"a loop", dots(1, 0), []int{7}, 0, 1, "0", api.OK},
		{"two edges", dots(2, 3, 0, 1), []int{7, 4}, 0, 3, "1/11", api.OK},
		{"a square", must(crackle.Grid(2, 2)), []int{1, 1, 1, 1}, 0, 1, "3/4", api.OK},
		{"a square, across", must(crackle.Grid(2, 2)), []int{1, 1, 1, 1}, 0, 3, "1", api.OK},
		{"a square with weights", must(crackle.Grid(2, 2)), []int{1, 2, 3, 4}, 0, 1, "13/25", api.OK},
		{"other parts", dots(0, 1, 2, 3), []int{1, 1}, 1, 2, "", api.ErrState},
		{"other parts, large", beside(ten, ten), slices.Repeat([]int{1}, 18), 0, 18, "", api.ErrState},
		{"9 vertices", nine, slices.Repeat([]int{1000}, 8), 0, 15, "1/125", api.OK},
		{"9 vertices, one dart", nine, slices.Repeat([]int{1000}, 8), 5, 5, "0", api.OK},
		{"10 vertices", ten, slices.Repeat([]int{1}, 9), 0, 17, "", api.ErrSize},
		{"10 vertices, one dart", ten, slices.Repeat([]int{1}, 9), 3, 3, "", api.ErrSize},
		{"10 vertices, one vertex", ten, slices.Repeat([]int{1}, 9), 3, 4, "", api.ErrSize},
		{"9 vertices beside 10", beside(ten, nine), slices.Repeat([]int{2}, 17), 18, 33, "4", api.OK},
		{"10 vertices beside 9", beside(nine, ten), slices.Repeat([]int{2}, 17), 16, 33, "", api.ErrSize},
		{"one of many edges", apart(40, dots(0, 1)), slices.Repeat([]int{1000}, 40), 79, 78, "1/1000", api.OK},
		{"a bundle", bundle(r, 40, 0, 1), slices.Repeat([]int{1000}, 40), 0, 3, "1/40000", api.OK},
		{"all pairs of 9", complete(r, 9), slices.Repeat([]int{1}, 36), 0, 1, "2/9", api.OK},
	} {
		got, e := crackle.Resist(x.m, x.weight, x.a, x.b)
		if e != x.e || e == api.OK && text(got) != x.want || e != api.OK && fmt.Sprint(got) != fmt.Sprint(api.Rat{}) {
			t.Errorf("%s: Resist %v, %v, want %s, %v", x.what, got, e, x.want, x.e)
		}
	}
}

func TestP8_9_ResistErrors(t *testing.T) {
	check := func(what string, m crackle.Map, weight []int, a, b int) {
		t.Helper()
		if f, e := crackle.Resist(m, weight, a, b); fmt.Sprint(f) != fmt.Sprint(api.Rat{}) || e != api.ErrArg {
			t.Errorf("%s: Resist(%d, %d) %v, %v", what, a, b, f, e)
		}
	}
	bad := badMaps()
	for _, what := range sorted(bad) {
		check(what, bad[what], ones(bad[what]), 0, 0)
	}
	for _, weight := range badWeights() {
		check(fmt.Sprintf("%d weights", len(weight)), dots(2, 3, 4, 5, 0, 1), weight, 0, 1)
		check(fmt.Sprintf("%d weights, other parts", len(weight)), dots(0, 1, 2, 3, 4, 5), weight, 0, 5)
	}
	ten := path(rand.New(rand.NewSource(97)), 9)
	for _, d := range []int{-1, 18, 19, math.MinInt, math.MaxInt} {
		check("no dart", ten, ones(ten), d, 0)
		check("no dart", ten, ones(ten), 17, d)
		check("no darts", ten, ones(ten), d, d)
	}
	check("nothing", dots(), nil, 0, 0)
}

// energyOf follows the definition.
func energyOf(m crackle.Map, weight []int, p []api.Rat) *big.Rat {
	sum := new(big.Rat)
	for e, x := range weight {
		difference := new(big.Rat).Sub(toRat(p[2*e]), toRat(p[2*e+1]))
		sum.Add(sum, new(big.Rat).Mul(fraction(x, 1), difference.Mul(difference, difference)))
	}
	return sum
}

// randomPotential draws the parts of its elements below limit.
func randomPotential(r *rand.Rand, m crackle.Map, limit *big.Int) []api.Rat {
	vertex := vertexOf(m)
	p := make([]api.Rat, len(vertex))
	for d, v := range vertex {
		if v == d {
			den := new(big.Int).Rand(r, new(big.Int).Sub(limit, big.NewInt(1)))
			f := new(big.Rat).SetFrac(new(big.Int).Rand(r, limit), den.Add(den, big.NewInt(1)))
			if r.Intn(2) == 0 {
				f.Neg(f)
			}
			p[d] = fromRat(f)
		}
		p[d] = fromRat(toRat(p[v]))
	}
	return p
}

func TestP8_9_Energy(t *testing.T) {
	r := rand.New(rand.NewSource(98))
	longest := 0
	for i, m := range allKinds() {
		weight := randomWeights(r, m, 1000)
		p := randomPotential(r, m, new(big.Int).Lsh(big.NewInt(1), []uint{2, 8, 33, 64}[i%4]))
		got, e := crackle.Energy(m, weight, p)
		if len(different(vertexOf(m))) > 41 {
			if e != api.ErrSize || fmt.Sprint(got) != fmt.Sprint(api.Rat{}) {
				t.Errorf("%v: Energy %v, %v", m, got, e)
			}
			continue
		}
		if want := energyOf(m, weight, p).RatString(); text(got) != want || e != api.OK {
			t.Errorf("%v: Energy(%v, %s) %s, %v, want %s", m, weight, texts(p), text(got), e, want)
		}
		longest = max(longest, len(got.Num.Words))
	}
	if longest < 100 {
		t.Errorf("no energy has more than %d words", longest)
	}
}

// TestP8_9_LongEnergy has the greatest energies, without common divisors.
func TestP8_9_LongEnergy(t *testing.T) {
	r := rand.New(rand.NewSource(99))
	limit := new(big.Int).Lsh(big.NewInt(1), 64)
	for _, m := range []crackle.Map{star(r, 40), path(r, 40), ring(r, 40)} {
		vertex, den := vertexOf(m), new(big.Int).Sub(limit, big.NewInt(1))
		p := make([]api.Rat, len(vertex))
		for d, v := range vertex {
			if v == d {
				for den.Sub(den, big.NewInt(2)); !den.ProbablyPrime(5); den.Sub(den, big.NewInt(2)) {
				}
				num := new(big.Int).Sub(limit, big.NewInt(1))
				if r.Intn(2) == 0 {
					num.Neg(num)
				}
				p[d] = fromRat(new(big.Rat).SetFrac(num, den))
			}
			p[d] = fromRat(toRat(p[v]))
		}
		weight := slices.Repeat([]int{1000}, 40)
		got, e := crackle.Energy(m, weight, p)
		if want := energyOf(m, weight, p).RatString(); text(got) != want || e != api.OK || len(got.Den.Words) < 155 {
			t.Errorf("Energy %s, %v, want %s", text(got), e, want)
		}
	}
}

func TestP8_9_EnergyKnown(t *testing.T) {
	r := rand.New(rand.NewSource(100))
	zeros := func(n int) string { return strings.Repeat("0 ", n) }
	for _, x := range []struct {
		what   string
		m      crackle.Map
		weight []int
		p      []api.Rat
		want   string
		e      api.Errno
	}{
		{"nothing", dots(), nil, nil, "0", api.OK},
		{"an edge", dots(0, 1), []int{7}, rats("1 4"), "63", api.OK},
		{"an edge back", dots(0, 1), []int{7}, rats("4 1"), "63", api.OK},
		{"an edge between fractions", dots(0, 1), []int{1000}, rats("-1/2 1/3"), "6250/9", api.OK},
		{"a loop", dots(1, 0), []int{7}, rats("2/3 2/3"), "0", api.OK},
		{"two edges one after the other", dots(0, 2, 1, 3), []int{1, 2}, rats("0 2 2 3"), "6", api.OK},
		{"parts", dots(0, 1, 2, 3), []int{1, 2}, rats("0 1 5 8"), "19", api.OK},
		{"two words", dots(0, 1), []int{1}, rats("18446744073709551615 18446744073709551614"), "1", api.OK},
		{"two words below", dots(0, 1), []int{1}, rats("1/18446744073709551615 1/18446744073709551615"), "0", api.OK},
		{"three words", dots(0, 1), []int{1}, rats("18446744073709551616 18446744073709551616"), "", api.ErrSize},
		{"three words at last", dots(0, 1), []int{1}, rats("1 -18446744073709551616"), "", api.ErrSize},
		{"three words below", dots(0, 1), []int{1}, rats("1/18446744073709551616 1"), "", api.ErrSize},
		{"41 vertices", path(r, 40), slices.Repeat([]int{1}, 40), rats(zeros(80)), "0", api.OK},
		{"42 vertices", beside(dots(0, 1, 2, 3), path(r, 37)), slices.Repeat([]int{1}, 39), rats(zeros(78)), "", api.ErrSize},
		{"41 vertices in parts", beside(dots(0, 1, 2, 3), path(r, 36)), slices.Repeat([]int{1}, 38), rats(zeros(76)), "0", api.OK},
		{"80 vertices", apart(40, dots(0, 1)), slices.Repeat([]int{1}, 40), rats(zeros(80)), "", api.ErrSize},
		{"256 words", dots(1, 0), []int{1}, []api.Rat{long(256), long(256)}, "", api.ErrSize},
	} {
		got, e := crackle.Energy(x.m, x.weight, x.p)
		if e != x.e || e == api.OK && text(got) != x.want || e != api.OK && fmt.Sprint(got) != fmt.Sprint(api.Rat{}) {
			t.Errorf("%s: Energy %v, %v, want %s, %v", x.what, got, e, x.want, x.e)
		}
	}
}

// long has so many words.
func long(words int) api.Rat {
	return api.Rat{Num: api.Int{Words: slices.Repeat([]uint32{1}, words)}, Den: api.Int{Words: []uint32{1}}}
}

// badRats are no fractions, by what is wrong with them.
func badRats() map[string]api.Rat {
	word := func(n uint32) api.Int { return api.Int{Words: []uint32{n}} }
	return map[string]api.Rat{
		"nothing":                {},
		"no denominator":         {Num: word(1)},
		"a denominator below 0":  {Num: word(1), Den: api.Int{Neg: true, Words: []uint32{1}}},
		"not in lowest terms":    {Num: word(2), Den: word(4)},
		"a zero of halves":       {Den: word(2)},
		"a negative zero":        {Num: api.Int{Neg: true}, Den: word(1)},
		"a zero word at the top": {Num: api.Int{Words: []uint32{1, 0}}, Den: word(1)},
		"a zero word below":      {Num: word(1), Den: api.Int{Words: []uint32{1, 0}}},
		"257 words":              long(257),
		"very many words":        long(1_000_000),
		"very many words below":  {Num: word(1), Den: long(1_000_000).Num},
	}
}

func TestP8_9_EnergyErrors(t *testing.T) {
	check := func(what string, m crackle.Map, weight []int, p []api.Rat) {
		t.Helper()
		if f, e := crackle.Energy(m, weight, p); fmt.Sprint(f) != fmt.Sprint(api.Rat{}) || e != api.ErrArg {
			t.Errorf("%s: Energy %v, %v", what, f, e)
		}
	}
	bad := badMaps()
	for _, what := range sorted(bad) {
		check(what, bad[what], ones(bad[what]), rats(strings.Repeat("0 ", min(len(bad[what].Next), 100))))
	}
	for _, weight := range badWeights() {
		check(fmt.Sprintf("%d weights", len(weight)), dots(2, 3, 4, 5, 0, 1), weight, rats("0 0 0 0 0 0"))
	}
	many := apart(40, dots(0, 1))
	for _, p := range []string{"", "1", "1 2 3", "1 2 3 4"} {
		check("a potential of another length", dots(0, 1), []int{1}, rats(p))
		check("a potential of another length for many vertices", many, ones(many), rats(p))
	}
	check("a very long potential", dots(0, 1), []int{1}, make([]api.Rat, 1_000_000))
	check("a potential of nothing", dots(), nil, rats("0"))
	check("two potentials at a vertex", dots(1, 0), []int{1}, rats("1 2"))
	check("two potentials at a vertex that differ by the sign", dots(1, 0), []int{1}, rats("1/2 -1/2"))
	check("two potentials at the last vertex", dots(0, 2, 3, 1), []int{1, 1}, rats("1 2 2 3"))
	check("two long potentials at a vertex", dots(1, 0), []int{1}, []api.Rat{long(9), long(8)})
	zeros := rats(strings.Repeat("0 ", 80))
	rats := badRats()
	for _, what := range sorted(rats) {
		f := rats[what]
		check(what+" first", dots(0, 1), []int{1}, []api.Rat{f, long(1)})
		check(what+" last", dots(0, 1), []int{1}, []api.Rat{long(1), f})
		check(what+" everywhere", dots(1, 0), []int{1}, []api.Rat{f, f})
		check(what+" beside one that is too long", dots(0, 1), []int{1}, []api.Rat{long(3), f})
		check(what+" at one of many vertices", many, ones(many), append(slices.Clone(zeros[1:]), f))
	}
}
