package mask_test

import (
	"math"
	"math/rand"
	"slices"
	"testing"

	"canting/api"
	"canting/mask"
)

// must returns the result of a call that has to succeed.
func must[T any](x T, e api.Errno) T {
	if e != api.OK {
		panic(e)
	}
	return x
}

// laws calls try with triples of masks of the same variables, among them all pairs of two variables.
func laws(try func(f, g, h mask.Mask)) {
	r := rand.New(rand.NewSource(11))
	two := allTables(2)
	for _, a := range two {
		for _, b := range two {
			try(canonical(a), canonical(b), canonical(two[r.Intn(len(two))]))
		}
	}
	for _, n := range sizes {
		tables := someTables(n)
		pick := func() mask.Mask { return canonical(tables[r.Intn(len(tables))]) }
		for range 12 {
			try(pick(), pick(), pick())
		}
	}
}

// randomSet returns a set of up to five of n variables.
func randomSet(r *rand.Rand, n int) []int {
	return r.Perm(n)[:r.Intn(min(n, 5)+1)]
}

// TestP2_10_Canonicity makes the same functions in many ways.
func TestP2_10_Canonicity(t *testing.T) {
	r := rand.New(rand.NewSource(12))
	for range 300 {
		n := r.Intn(8)
		table := randomTable(r, n, 0.5)
		union := must(mask.Const(n, false))
		for _, p := range r.Perm(1 << n) {
			if table[p] {
				union = must(mask.Or(union, minterm(n, p)))
			}
		}
		if want := must(mask.FromTable(table)); !same(union, want) || !mask.Valid(union) {
			t.Fatalf("%v as a union, %v by its table", union, want)
		}
	}
	laws(func(f, g, h mask.Mask) {
		l := []mask.Mask{f, g, h}
		for _, a := range l {
			for _, b := range l {
				if slices.Equal(must(mask.Table(a)), must(mask.Table(b))) != same(a, b) {
					t.Errorf("%v and %v", a, b)
				}
			}
		}
	})
}

// minterm returns the mask that is true at one point only.
func minterm(n, p int) mask.Mask {
	f := must(mask.Const(n, true))
	for i := range n {
		v := must(mask.Var(n, i))
		if !bit(p, i, n) {
			v = must(mask.Not(v))
		}
		f = must(mask.And(v, f))
	}
	return f
}

func TestP2_11_BooleanAlgebra(t *testing.T) {
	not := func(f mask.Mask) mask.Mask { return must(mask.Not(f)) }
	and := func(f, g mask.Mask) mask.Mask { return must(mask.And(f, g)) }
	or := func(f, g mask.Mask) mask.Mask { return must(mask.Or(f, g)) }
	laws(func(f, g, h mask.Mask) {
		never, always := must(mask.Const(f.Vars, false)), must(mask.Const(f.Vars, true))
		for name, sides := range map[string][2]mask.Mask{
			"not not":          {not(not(f)), f},
			"commutative and":  {and(f, g), and(g, f)},
			"commutative or":   {or(f, g), or(g, f)},
			"associative and":  {and(f, and(g, h)), and(and(f, g), h)},
			"associative or":   {or(f, or(g, h)), or(or(f, g), h)},
			"distributive and": {and(f, or(g, h)), or(and(f, g), and(f, h))},
			"distributive or":  {or(f, and(g, h)), and(or(f, g), or(f, h))},
			"absorption and":   {and(f, or(f, g)), f},
			"absorption or":    {or(f, and(f, g)), f},
			"de Morgan":        {not(and(f, g)), or(not(f), not(g))},
			"complement and":   {and(f, not(f)), never},
			"complement or":    {or(f, not(f)), always},
			"neutral and":      {and(f, always), f},
			"neutral or":       {or(f, never), f},
			"xor":              {must(mask.Xor(f, g)), or(and(f, not(g)), and(not(f), g))},
			"ite":              {must(mask.Ite(f, g, h)), or(and(f, g), and(not(f), h))},
		} {
			if !same(sides[0], sides[1]) {
				t.Errorf("%s: %v is not %v", name, short(sides[0]), short(sides[1]))
			}
		}
	})
}

func TestP2_11_Shannon(t *testing.T) {
	laws(func(f, _, _ mask.Mask) {
		for i := range f.Vars {
			no, yes := must(mask.Restrict(f, i, false)), must(mask.Restrict(f, i, true))
			if g := must(mask.Ite(must(mask.Var(f.Vars, i)), yes, no)); !same(f, g) {
				t.Errorf("%v by variable %d: %v", short(f), i, short(g))
			}
		}
	})
}

func TestP2_12_Quantifiers(t *testing.T) {
	r := rand.New(rand.NewSource(13))
	laws(func(f, _, _ mask.Mask) {
		set := randomSet(r, f.Vars)
		exists := must(mask.Exists(f, set))
		forall := must(mask.Forall(must(mask.Not(f)), set))
		if !same(exists, must(mask.Not(forall))) {
			t.Errorf("Exists and Forall of %v by %v", short(f), set)
		}
		if !same(must(mask.And(f, exists)), f) {
			t.Errorf("%v does not imply Exists by %v", short(f), set)
		}
	})
}

func TestP2_13_Counts(t *testing.T) {
	laws(func(f, _, _ mask.Mask) {
		if n := must(mask.Count(f)) + must(mask.Count(must(mask.Not(f)))); n != 1<<f.Vars {
			t.Errorf("%v and its Not have %d points", short(f), n)
		}
		times := make([]int, 1<<f.Vars)
		for _, cube := range must(mask.Paths(f)) {
			if len(cube) != f.Vars {
				t.Fatalf("a cube %v of %d variables", cube, f.Vars)
			}
			eachPoint(cube, func(p int) { times[p]++ })
		}
		for p, b := range must(mask.Table(f)) {
			if b && times[p] != 1 || !b && times[p] != 0 {
				t.Fatalf("the point %d of %v is in %d cubes", p, short(f), times[p])
			}
		}
	})
}

// eachPoint calls visit with the points of a cube.
func eachPoint(cube []int, visit func(p int)) {
	var grow func(i, p int)
	grow = func(i, p int) {
		switch {
		case i == len(cube):
			visit(p)
		case cube[i] == 2:
			grow(i+1, 2*p)
			grow(i+1, 2*p+1)
		default:
			grow(i+1, 2*p+cube[i])
		}
	}
	grow(0, 0)
}

func TestP2_14_Order(t *testing.T) {
	r := rand.New(rand.NewSource(14))
	for n := range 9 {
		for _, table := range someTables(n) {
			f := canonical(table)
			fewest := len(must(mask.Reorder(f, must(mask.Best(f)))).Nodes)
			for range 20 {
				perm := r.Perm(n)
				if g := must(mask.Reorder(f, perm)); len(g.Nodes) < fewest {
					t.Errorf("%v has %d nodes by Best, %d by %v", short(f), fewest, len(g.Nodes), perm)
				}
			}
		}
	}
}

func TestP2_15_ThereAndBack(t *testing.T) {
	laws(func(f, _, _ mask.Mask) {
		if g := must(mask.Read(must(mask.Text(f)))); !same(f, g) {
			t.Errorf("%v by its text: %v", short(f), short(g))
		}
		if g := must(mask.FromTable(must(mask.Table(f)))); !same(f, g) {
			t.Errorf("%v by its table: %v", short(f), short(g))
		}
	})
}

func TestP2_16_Cloth(t *testing.T) {
	r := rand.New(rand.NewSource(16))
	laws(func(f, _, _ mask.Mask) {
		if f.Vars%2 == 1 {
			return
		}
		dx, dy := r.Intn(100)-50, r.Intn(100)-50
		shifted := must(mask.Shift(f, dx, dy))
		if back := must(mask.Shift(shifted, -dx, -dy)); !same(f, back) {
			t.Errorf("%v by %d, %d and back: %v", short(f), dx, dy, short(back))
		}
		turned := must(mask.Turn(f))
		if n := must(mask.Count(f)); must(mask.Count(shifted)) != n || must(mask.Count(turned)) != n {
			t.Errorf("%v has another count when it is shifted or turned", short(f))
		}
		for range 3 {
			turned = must(mask.Turn(turned))
		}
		if !same(f, turned) {
			t.Errorf("%v turned four times: %v", short(f), short(turned))
		}
	})
}

func TestExample1(t *testing.T) {
	f := must(mask.Var(2, 0))
	if !same(f, nodes(2, [3]int{0, 0, 1})) || must(mask.Text(f)) != "2 0?1:0" {
		t.Errorf("Var(2, 0): %v", f)
	}
	if must(mask.Nth(f, 0)) != 2 || must(mask.Nth(f, 1)) != 3 || must(mask.Count(f)) != 2 {
		t.Error("its points are not 2 and 3")
	}
}

func TestExample2(t *testing.T) {
	f := must(mask.Xor(must(mask.Var(2, 0)), must(mask.Var(2, 1))))
	if !same(f, nodes(2, [3]int{1, 0, 1}, [3]int{1, 1, 0}, [3]int{0, 2, 3})) {
		t.Errorf("Xor: %v", f)
	}
	if s := must(mask.Text(f)); s != "2 1?1:0 1?0:1 0?3:2" {
		t.Errorf("its text: %q", s)
	}
	if must(mask.Count(f)) != 2 || must(mask.Next(f, 0)) != 1 {
		t.Error("Count or Next")
	}
	if l := must(mask.Paths(f)); !sameCubes(l, [][]int{{0, 1}, {1, 0}}) {
		t.Errorf("Paths: %v", l)
	}
	if l := must(mask.Least(f)); !slices.Equal(l, []int{0, 1}) {
		t.Errorf("Least: %v", l)
	}
}

func TestExample3(t *testing.T) {
	pairs := func(a, b, c, d int) mask.Mask {
		v := func(i int) mask.Mask { return must(mask.Var(4, i)) }
		return must(mask.Or(must(mask.And(v(a), v(b))), must(mask.And(v(c), v(d)))))
	}
	f := pairs(0, 1, 2, 3)
	if len(f.Nodes) != 4 {
		t.Errorf("f: %v", f)
	}
	g := must(mask.Reorder(f, []int{0, 2, 1, 3}))
	if len(g.Nodes) != 6 || !same(g, pairs(0, 2, 1, 3)) {
		t.Errorf("Reorder: %v", g)
	}
	if l := must(mask.Best(f)); !slices.Equal(l, []int{0, 1, 2, 3}) {
		t.Errorf("Best: %v", l)
	}
	if l := must(mask.Least(f)); !slices.Equal(l, []int{1, 1, 2, 2}) {
		t.Errorf("Least: %v", l)
	}
}

func TestExample4(t *testing.T) {
	f := must(mask.Rect(1, 0, 0, 0, 1))
	if s := must(mask.Text(f)); s != "2 0?0:1" {
		t.Errorf("Rect: %q", s)
	}
	for _, y := range []int{0, 1} {
		if !must(mask.At(f, must(mask.Cell(1, 0, y)))) || must(mask.At(f, must(mask.Cell(1, 1, y)))) {
			t.Errorf("its cells at y = %d", y)
		}
	}
	if must(mask.Cell(1, 1, 0)) != 2 {
		t.Error("Cell(1, 1, 0)")
	}
	if g := must(mask.Shift(f, 1, 0)); !same(g, must(mask.Rect(1, 1, 0, 1, 1))) {
		t.Errorf("Shift: %v", g)
	}
	if g := must(mask.Turn(must(mask.Rect(1, 0, 0, 0, 0)))); !same(g, must(mask.Rect(1, 1, 0, 1, 0))) {
		t.Errorf("Turn: %v", g)
	}
}

// TestTotality calls the functions with what is far from valid: every call has to return.
func TestTotality(t *testing.T) {
	far := []int{math.MinInt, -1, 0, 1, 12, 63, 64, math.MaxInt}
	for _, a := range far {
		for _, b := range far {
			f := mask.Mask{Vars: a, Nodes: []mask.Node{{Var: b, Low: b, High: a}}, Root: 2}
			if mask.Valid(f) != (a == 1 && b == 0) {
				t.Errorf("Valid(%v): %v", f, mask.Valid(f))
			}
			for _, call := range maskCalls() {
				call(f)
				call(mask.Mask{Vars: a, Root: b})
			}
			mask.Const(a, true)
			mask.Var(a, b)
			for _, c := range far {
				mask.Cell(a, b, c)
				mask.Rect(a, b, c, b, c)
				mask.Rect(3, a, b, c, 0)
			}
		}
	}
}
