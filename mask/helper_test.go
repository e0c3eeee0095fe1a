package mask_test

import (
	"fmt"
	"math"
	"math/bits"
	"math/rand"
	"slices"
	"testing"

	"canting/api"
	"canting/mask"
)

// The tests compare package mask with tables of all values, and only through the exported functions.

// variables returns of how many variables a table is.
func variables(t []bool) int {
	return bits.Len(uint(len(t))) - 1
}

// canonical returns the mask of a table as the chapter defines it: by a visit of the functions that are left as the variables are asked.
func canonical(t []bool) mask.Mask {
	f := mask.Mask{Vars: variables(t)}
	met := map[string]int{}
	var visit func(v int, part []bool) int
	visit = func(v int, part []bool) int {
		if len(part) == 1 {
			return map[bool]int{false: 0, true: 1}[part[0]]
		}
		low, high := part[:len(part)/2], part[len(part)/2:]
		if slices.Equal(low, high) {
			return visit(v+1, low)
		}
		name := key(part)
		if place, ok := met[name]; ok {
			return place
		}
		l := visit(v+1, low)
		h := visit(v+1, high)
		f.Nodes = append(f.Nodes, mask.Node{Var: v, Low: l, High: h})
		met[name] = len(f.Nodes) + 1
		return met[name]
	}
	f.Root = visit(0, t)
	return f
}

func key(t []bool) string {
	name := make([]byte, len(t))
	for i, b := range t {
		name[i] = '0'
		if b {
			name[i] = '1'
		}
	}
	return string(name)
}

// bit returns the value of variable i at a point of n variables.
func bit(p, i, n int) bool {
	return p>>(n-1-i)&1 == 1
}

// with returns the point p with variable i set to b.
func with(p, i, n int, b bool) int {
	p &^= 1 << (n - 1 - i)
	if b {
		p |= 1 << (n - 1 - i)
	}
	return p
}

// tableBy returns the table of a rule.
func tableBy(n int, rule func(p int) bool) []bool {
	t := make([]bool, 1<<n)
	for p := range t {
		t[p] = rule(p)
	}
	return t
}

// numbered returns the table of n variables whose values are the bits of a number.
func numbered(n int, number uint64) []bool {
	return tableBy(n, func(p int) bool { return number>>p&1 == 1 })
}

// allTables returns the tables of all functions of n variables, up to 4.
func allTables(n int) [][]bool {
	var out [][]bool
	for number := range uint64(1) << (1 << n) {
		out = append(out, numbered(n, number))
	}
	return out
}

func randomTable(r *rand.Rand, n int, dense float64) []bool {
	return tableBy(n, func(int) bool { return r.Float64() < dense })
}

// sums returns the table of a function of the number of ones.
func sums(n int, rule func(ones int) bool) []bool {
	return tableBy(n, func(p int) bool { return rule(bits.OnesCount(uint(p))) })
}

// cubesTable returns the table of a union of random cubes.
func cubesTable(r *rand.Rand, n, count int) []bool {
	t := make([]bool, 1<<n)
	for range count {
		cube := make([]int, n)
		for i := range cube {
			cube[i] = r.Intn(3)
		}
		for p := range t {
			t[p] = t[p] || inCube(cube, p)
		}
	}
	return t
}

func inCube(cube []int, p int) bool {
	for i, element := range cube {
		if element != 2 && bit(p, i, len(cube)) != (element == 1) {
			return false
		}
	}
	return true
}

// someTables returns tables of n variables of all sorts, the same ones each time.
func someTables(n int) [][]bool {
	r := rand.New(rand.NewSource(int64(n)))
	out := [][]bool{
		sums(n, func(int) bool { return false }),
		sums(n, func(int) bool { return true }),
		sums(n, func(ones int) bool { return ones%2 == 1 }),
		sums(n, func(ones int) bool { return 2*ones > n }),
		sums(n, func(ones int) bool { return ones == n }),
		sums(n, func(ones int) bool { return ones > 0 }),
		sums(n, func(ones int) bool { return ones == 1 }),
	}
	for _, dense := range []float64{0.05, 0.5, 0.5, 0.9} {
		out = append(out, randomTable(r, n, dense))
	}
	for _, count := range []int{2, 3, 5} {
		out = append(out, cubesTable(r, n, count))
	}
	if n > 0 {
		i := r.Intn(n)
		out = append(out, tableBy(n, func(p int) bool { return bit(p, i, n) }))
	}
	return out
}

// sizes are numbers of variables for tests that would take too long with all of them.
var sizes = []int{0, 1, 2, 3, 4, 5, 7, 12}

func same(f, g mask.Mask) bool {
	return f.Vars == g.Vars && f.Root == g.Root && slices.Equal(f.Nodes, g.Nodes)
}

func isZero(f mask.Mask) bool {
	return same(f, mask.Mask{})
}

func wantMask(t *testing.T, got mask.Mask, e api.Errno, table []bool, what ...any) {
	t.Helper()
	if want := canonical(table); e != api.OK || !same(got, want) {
		t.Fatalf("%v: got %v, error %d; want %v", what, short(got), e, short(want))
	}
}

// short keeps large masks out of the messages.
func short(f mask.Mask) string {
	if len(f.Nodes) > 20 {
		return fmt.Sprintf("a mask of %d variables with %d nodes", f.Vars, len(f.Nodes))
	}
	return fmt.Sprint(f)
}

// nodes makes a mask of n variables of nodes that are given as Var, Low, High, with the last one as root.
func nodes(n int, l ...[3]int) mask.Mask {
	f := mask.Mask{Vars: n, Root: len(l) + 1}
	for _, node := range l {
		f.Nodes = append(f.Nodes, mask.Node{Var: node[0], Low: node[1], High: node[2]})
	}
	return f
}

func rooted(f mask.Mask, root int) mask.Mask {
	f.Root = root
	return f
}

func sized(f mask.Mask, vars int) mask.Mask {
	f.Vars = vars
	return f
}

// invalid returns masks of which each breaks a rule.
func invalid() map[string]mask.Mask {
	one := nodes(2, [3]int{0, 0, 1})
	xor := nodes(2, [3]int{1, 0, 1}, [3]int{1, 1, 0}, [3]int{0, 2, 3})
	return map[string]mask.Mask{
		"Vars below 0":            {Vars: -1},
		"Vars least":              {Vars: math.MinInt},
		"Vars above 12":           {Vars: 13},
		"Vars above 12, node":     sized(one, 13),
		"Vars most":               sized(one, math.MaxInt),
		"Vars 62":                 sized(one, 62),
		"Vars 64":                 sized(one, 64),
		"Vars below 0, node":      sized(one, -1),
		"no variables, node":      sized(one, 0),
		"no nodes, Root 2":        {Vars: 2, Root: 2},
		"no nodes, Root below 0":  {Vars: 2, Root: -1},
		"no nodes, Root most":     {Vars: 2, Root: math.MaxInt},
		"no nodes, Root least":    {Vars: 2, Root: math.MinInt},
		"Root 0":                  rooted(one, 0),
		"Root 1":                  rooted(one, 1),
		"Root behind":             rooted(one, 3),
		"Root below 0":            rooted(one, -1),
		"Root not last":           rooted(xor, 3),
		"Root first":              rooted(xor, 2),
		"Var below 0":             nodes(2, [3]int{-1, 0, 1}),
		"Var least":               nodes(2, [3]int{math.MinInt, 0, 1}),
		"Var is Vars":             nodes(2, [3]int{2, 0, 1}),
		"Var most":                nodes(2, [3]int{math.MaxInt, 0, 1}),
		"Var of a first node":     nodes(2, [3]int{2, 0, 1}, [3]int{0, 0, 2}),
		"Low is High, 0":          nodes(2, [3]int{0, 0, 0}),
		"Low is High, 1":          nodes(2, [3]int{1, 1, 1}),
		"Low is High, node":       nodes(2, [3]int{1, 0, 1}, [3]int{0, 2, 2}),
		"Low itself":              nodes(2, [3]int{0, 2, 1}),
		"High itself":             nodes(2, [3]int{0, 0, 2}),
		"Low behind":              nodes(2, [3]int{0, 3, 1}),
		"High behind":             nodes(2, [3]int{0, 0, 3}),
		"High above":              nodes(2, [3]int{0, 0, 3}, [3]int{1, 0, 1}),
		"Low above":               nodes(2, [3]int{0, 3, 1}, [3]int{1, 0, 1}),
		"Low below 0":             nodes(2, [3]int{0, -1, 1}),
		"High below 0":            nodes(2, [3]int{0, 0, -1}),
		"Low least":               nodes(2, [3]int{0, math.MinInt, 1}),
		"High most":               nodes(2, [3]int{0, 1, math.MaxInt}),
		"Low of the same Var":     nodes(2, [3]int{1, 0, 1}, [3]int{1, 2, 1}),
		"High of the same Var":    nodes(2, [3]int{1, 0, 1}, [3]int{1, 0, 2}),
		"Low of a lower Var":      nodes(2, [3]int{0, 0, 1}, [3]int{1, 2, 1}),
		"High of a lower Var":     nodes(2, [3]int{0, 0, 1}, [3]int{1, 0, 2}),
		"equal nodes":             nodes(3, [3]int{2, 0, 1}, [3]int{2, 0, 1}, [3]int{1, 2, 0}, [3]int{1, 3, 1}, [3]int{0, 4, 5}),
		"equal nodes under root":  nodes(2, [3]int{1, 0, 1}, [3]int{1, 0, 1}, [3]int{0, 2, 3}),
		"High before Low":         nodes(2, [3]int{1, 1, 0}, [3]int{1, 0, 1}, [3]int{0, 3, 2}),
		"High before Low, deeper": nodes(3, [3]int{2, 0, 1}, [3]int{2, 1, 0}, [3]int{1, 2, 3}, [3]int{0, 3, 4}),
		"a node too many":         nodes(2, [3]int{1, 0, 1}, [3]int{0, 0, 1}),
		"a node too many, first":  nodes(2, [3]int{1, 1, 0}, [3]int{1, 0, 1}, [3]int{0, 0, 3}),
		"a node too many, inside": nodes(3, [3]int{2, 0, 1}, [3]int{2, 1, 0}, [3]int{0, 2, 1}),
		"a million nodes":         {Vars: 12, Nodes: make([]mask.Node, 1_000_000), Root: 1_000_001},
		"nodes of one variable":   nodes(1, [3]int{0, 0, 1}, [3]int{0, 1, 0}),
	}
}
