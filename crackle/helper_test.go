package crackle_test

import (
	"maps"
	"math/big"
	"math/bits"
	"math/rand"
	"slices"

	"canting/api"
	"canting/crackle"
)

// The tests compare package crackle with the definitions of the chapter, by lists of all ways, all sets of edges and all sets of vertices, and in fractions of math/big, and only through the exported functions.

// must returns the result of a call that has to succeed.
func must[T any](x T, e api.Errno) T {
	if e != api.OK {
		panic(e)
	}
	return x
}

func sorted[T any](m map[string]T) []string {
	return slices.Sorted(maps.Keys(m))
}

// around returns the darts that a step leads to, again and again, until the first one comes back.
func around(d int, step func(d int) int) []int {
	l := []int{d}
	for next := step(d); next != d; next = step(next) {
		l = append(l, next)
	}
	return l
}

// lowest returns for each dart the lowest one of those around it.
func lowest(m crackle.Map, step func(d int) int) []int {
	var l []int
	for d := range m.Next {
		l = append(l, slices.Min(around(d, step)))
	}
	return l
}

func vertexOf(m crackle.Map) []int {
	return lowest(m, func(d int) int { return m.Next[d] })
}

func faceOf(m crackle.Map) []int {
	return lowest(m, func(d int) int { return m.Next[d^1] })
}

// partOf passes lower names on until there are none.
func partOf(m crackle.Map) []int {
	l := make([]int, len(m.Next))
	for d := range l {
		l[d] = d
	}
	for changed := true; changed; {
		changed = false
		for d := range l {
			for _, near := range []int{m.Next[d], d ^ 1} {
				least := min(l[d], l[near])
				changed = changed || l[d] != least || l[near] != least
				l[d], l[near] = least, least
			}
		}
	}
	return l
}

// different returns the names in a list, each once, rising.
func different(names []int) []int {
	return slices.Compact(slices.Sorted(slices.Values(names)))
}

func edges(m crackle.Map) int {
	return len(m.Next) / 2
}

// ends returns the vertices of each edge.
func ends(m crackle.Map) [][2]int {
	var l [][2]int
	vertex := vertexOf(m)
	for e := range edges(m) {
		l = append(l, [2]int{vertex[2*e], vertex[2*e+1]})
	}
	return l
}

// ones returns the weights 1.
func ones(m crackle.Map) []int {
	return slices.Repeat([]int{1}, edges(m))
}

func randomWeights(r *rand.Rand, m crackle.Map, most int) []int {
	l := make([]int, edges(m))
	for e := range l {
		l[e] = 1 + r.Intn(most)
	}
	return l
}

// cyclesOf returns the cycles of at most most edges: those on ways from vertex to vertex.
func cyclesOf(m crackle.Map, most int) []int {
	found := map[int]bool{}
	list := ends(m)
	for _, first := range different(vertexOf(m)) {
		var walk func(at int, met []int, set int)
		walk = func(at int, met []int, set int) {
			if bits.OnesCount(uint(set)) >= most {
				return
			}
			for e, pair := range list {
				for k, from := range pair {
					to := pair[1-k]
					switch {
					case from != at || set>>e&1 == 1:
					case to == first:
						found[set|1<<e] = true
					case !slices.Contains(met, to):
						walk(to, append(slices.Clone(met), to), set|1<<e)
					}
				}
			}
		}
		walk(first, []int{first}, 0)
	}
	return slices.Sorted(maps.Keys(found))
}

// bondsOf returns the least sets of edges that part some vertices from others of their part.
func bondsOf(m crackle.Map) []int {
	part, vertex, list := partOf(m), vertexOf(m), ends(m)
	cuts := map[int]bool{}
	for _, name := range different(part) {
		var members []int
		for d, v := range vertex {
			if part[d] == name && v == d {
				members = append(members, v)
			}
		}
		for chosen := range 1 << len(members) {
			isIn := func(v int) bool { k := slices.Index(members, v); return k >= 0 && chosen>>k&1 == 1 }
			cut := 0
			for e, pair := range list {
				if isIn(pair[0]) != isIn(pair[1]) {
					cut |= 1 << e
				}
			}
			cuts[cut] = cut != 0
		}
	}
	var least []int
	bySize := slices.SortedFunc(maps.Keys(cuts), func(a, b int) int { return bits.OnesCount(uint(a)) - bits.OnesCount(uint(b)) })
	for _, cut := range bySize {
		if cuts[cut] && !slices.ContainsFunc(least, func(smaller int) bool { return smaller&^cut == 0 }) {
			least = append(least, cut)
		}
	}
	slices.Sort(least)
	return least
}

// isConnected reports whether edges of a set connect all vertices of a map.
func isConnected(m crackle.Map, set int) bool {
	vertices := different(vertexOf(m))
	return reachable(m, set, vertices[0]) == len(vertices)
}

// reachable counts the vertices to which edges of a set lead from one.
func reachable(m crackle.Map, set, from int) int {
	met := map[int]bool{from: true}
	for before := 0; before < len(met); {
		before = len(met)
		for e, pair := range ends(m) {
			if set>>e&1 == 1 && (met[pair[0]] || met[pair[1]]) {
				met[pair[0]], met[pair[1]] = true, true
			}
		}
	}
	return len(met)
}

// fraction returns a/b.
func fraction(a, b int) *big.Rat {
	return big.NewRat(int64(a), int64(b))
}

func fromBig(b *big.Int) api.Int {
	a := api.Int{Neg: b.Sign() < 0}
	for rest := new(big.Int).Abs(b); rest.Sign() != 0; rest.Rsh(rest, 32) {
		a.Words = append(a.Words, uint32(new(big.Int).And(rest, big.NewInt(1<<32-1)).Uint64()))
	}
	return a
}

func toBig(a api.Int) *big.Int {
	b := new(big.Int)
	for _, word := range slices.Backward(a.Words) {
		b.Add(b.Lsh(b, 32), big.NewInt(int64(word)))
	}
	if a.Neg {
		b.Neg(b)
	}
	return b
}

func fromRat(f *big.Rat) api.Rat {
	return api.Rat{Num: fromBig(f.Num()), Den: fromBig(f.Denom())}
}

// isValid reports whether f is in its only form.
func isValid(f api.Rat) bool {
	if len(f.Num.Words) > api.MaxWords || len(f.Den.Words) > api.MaxWords || toBig(f.Den).Sign() <= 0 {
		return false
	}
	g := fromRat(toRat(f))
	return sameInt(f.Num, g.Num) && sameInt(f.Den, g.Den)
}

func sameInt(a, b api.Int) bool {
	return a.Neg == b.Neg && slices.Equal(a.Words, b.Words)
}

// toRat needs a Den that is not zero.
func toRat(f api.Rat) *big.Rat {
	return new(big.Rat).SetFrac(toBig(f.Num), toBig(f.Den))
}

// text prints a fraction.
func text(f api.Rat) string {
	if !isValid(f) {
		return "not valid"
	}
	return toRat(f).RatString()
}

// conductance returns the sums of weights between different vertices.
func conductance(m crackle.Map, weight []int) map[[2]int]int {
	l := map[[2]int]int{}
	for e, pair := range ends(m) {
		if pair[0] != pair[1] {
			l[pair] += weight[e]
			l[[2]int{pair[1], pair[0]}] += weight[e]
		}
	}
	return l
}

// grounded returns, for the vertices of the part of a dart but its first one, the matrix of what flows off, and these vertices.
func grounded(m crackle.Map, weight []int, dart int) (rows [][]*big.Rat, vertices []int) {
	part, vertex, c := partOf(m), vertexOf(m), conductance(m, weight)
	for d, v := range vertex {
		if part[d] == part[dart] && v == d {
			vertices = append(vertices, v)
		}
	}
	for _, v := range vertices[1:] {
		var row []*big.Rat
		for _, u := range vertices[1:] {
			x := -c[[2]int{v, u}]
			for _, w := range vertices {
				if u == v {
					x += c[[2]int{v, w}]
				}
			}
			row = append(row, fraction(x, 1))
		}
		rows = append(rows, row)
	}
	return rows, vertices[1:]
}

// eliminate changes rows such that each has a 1 where it stands and zeros beside it, in as many columns as there are rows; it returns the determinant, which must not be zero.
func eliminate(rows [][]*big.Rat) *big.Rat {
	det := fraction(1, 1)
	for k := range rows {
		pivot := k
		for rows[pivot][k].Sign() == 0 {
			pivot++
		}
		if pivot != k {
			rows[k], rows[pivot] = rows[pivot], rows[k]
			det.Neg(det)
		}
		lead := new(big.Rat).Set(rows[k][k])
		det.Mul(det, lead)
		for j := range rows[k] {
			rows[k][j] = new(big.Rat).Quo(rows[k][j], lead)
		}
		for i, row := range rows {
			if i == k || row[k].Sign() == 0 {
				continue
			}
			factor := row[k]
			for j := range row {
				row[j] = new(big.Rat).Sub(row[j], new(big.Rat).Mul(factor, rows[k][j]))
			}
		}
	}
	return det
}

// treesOf returns the number of spanning trees of a map with one part.
func treesOf(m crackle.Map) int {
	rows, _ := grounded(m, ones(m), 0)
	return int(eliminate(rows).Num().Int64())
}

// resistOf returns the resistance between the vertices of two darts of one part.
func resistOf(m crackle.Map, weight []int, a, b int) *big.Rat {
	rows, vertices := grounded(m, weight, a)
	vertex := vertexOf(m)
	for i, v := range vertices {
		x := 0
		if v == vertex[a] {
			x++
		}
		if v == vertex[b] {
			x--
		}
		rows[i] = append(rows[i], fraction(x, 1))
	}
	eliminate(rows)
	drop := new(big.Rat)
	for i, v := range vertices {
		last := rows[i][len(rows)]
		if v == vertex[a] {
			drop.Add(drop, last)
		}
		if v == vertex[b] {
			drop.Sub(drop, last)
		}
	}
	return drop
}
