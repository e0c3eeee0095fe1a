package recipe_test

import (
	"fmt"
	"maps"
	"math/big"
	"math/rand"
	"slices"
	"strings"

	"canting/api"
	"canting/recipe"
)

// The tests compare package recipe with the definitions of the chapter, in fractions of math/big, and only through the exported functions.

func fromBig(b *big.Int) api.Int {
	a := api.Int{Neg: b.Sign() < 0}
	for rest := new(big.Int).Abs(b); rest.Sign() != 0; rest.Rsh(rest, 32) {
		a.Words = append(a.Words, uint32(new(big.Int).And(rest, big.NewInt(1<<32-1)).Uint64()))
	}
	return a
}

func toBig(a api.Int) *big.Int {
	b := new(big.Int)
	for _, word := range slices.Backward(a.Words) {
		b.Add(b.Lsh(b, 32), big.NewInt(int64(word)))
	}
	if a.Neg {
		b.Neg(b)
	}
	return b
}

func fromRat(f *big.Rat) api.Rat {
	return api.Rat{Num: fromBig(f.Num()), Den: fromBig(f.Denom())}
}

// toRat needs a Den that is not zero.
func toRat(f api.Rat) *big.Rat {
	return new(big.Rat).SetFrac(toBig(f.Num), toBig(f.Den))
}

func toRats(l []api.Rat) []*big.Rat {
	var out []*big.Rat
	for _, f := range l {
		out = append(out, toRat(f))
	}
	return out
}

func sameInt(a, b api.Int) bool {
	return a.Neg == b.Neg && slices.Equal(a.Words, b.Words)
}

// isValid reports whether f is in its only form.
func isValid(f api.Rat) bool {
	if len(f.Num.Words) > api.MaxWords || len(f.Den.Words) > api.MaxWords || toBig(f.Den).Sign() <= 0 {
		return false
	}
	g := fromRat(toRat(f))
	return sameInt(f.Num, g.Num) && sameInt(f.Den, g.Den)
}

func fraction(s string) *big.Rat {
	f, ok := new(big.Rat).SetString(s)
	if !ok {
		panic(s)
	}
	return f
}

func rational(s string) api.Rat {
	return fromRat(fraction(s))
}

// row reads fractions with blanks between them.
func row(s string) []api.Rat {
	var out []api.Rat
	for _, f := range strings.Fields(s) {
		out = append(out, rational(f))
	}
	return out
}

// matrix reads rows with semicolons between them.
func matrix(s string) [][]api.Rat {
	var out [][]api.Rat
	for _, r := range strings.Split(s, ";") {
		out = append(out, row(r))
	}
	return out
}

func program(a, b, c string) recipe.Program {
	return recipe.Program{A: matrix(a), B: row(b), C: row(c)}
}

// text prints fractions.
func text(l ...api.Rat) string {
	var out []string
	for _, f := range l {
		if !isValid(f) {
			out = append(out, fmt.Sprintf("not valid: %v", f))
			continue
		}
		out = append(out, toRat(f).RatString())
	}
	return strings.Join(out, " ")
}

func rowsText(rows [][]api.Rat) string {
	var out []string
	for _, r := range rows {
		out = append(out, text(r...))
	}
	return strings.Join(out, "; ")
}

func programText(p recipe.Program) string {
	return fmt.Sprintf("program(%q, %q, %q)", rowsText(p.A), text(p.B...), text(p.C...))
}

func answerText(a recipe.Answer) string {
	return fmt.Sprintf("kind %d, value %s, X %s, Y %s, Ray %s", a.Kind, text(a.Value), text(a.X...), text(a.Y...), text(a.Ray...))
}

// dot returns the sum of the products of elements.
func dot(u, v []api.Rat) *big.Rat {
	sum := new(big.Rat)
	for i := range u {
		sum.Add(sum, new(big.Rat).Mul(toRat(u[i]), toRat(v[i])))
	}
	return sum
}

func column(p recipe.Program, j int) []api.Rat {
	var out []api.Rat
	for _, r := range p.A {
		out = append(out, r[j])
	}
	return out
}

// isMixture follows the definition of a mixture.
func isMixture(p recipe.Program, x []api.Rat) bool {
	for _, f := range x {
		if toRat(f).Sign() < 0 {
			return false
		}
	}
	for i, r := range p.A {
		if dot(r, x).Cmp(toRat(p.B[i])) != 0 {
			return false
		}
	}
	return len(x) == len(p.C)
}

// haveLimits reports whether no column is worth more than its limit.
func haveLimits(p recipe.Program, y []api.Rat, limit func(j int) *big.Rat) bool {
	for j := range p.C {
		if dot(y, column(p, j)).Cmp(limit(j)) > 0 {
			return false
		}
	}
	return true
}

// isProof follows the definition of a proof.
func isProof(p recipe.Program, a recipe.Answer) bool {
	for _, f := range slices.Concat(a.X, a.Y, a.Ray, []api.Rat{a.Value}) {
		if !isValid(f) || len(f.Num.Words) > 24 || len(f.Den.Words) > 24 {
			return false
		}
	}
	n, m := len(p.C), len(p.B)
	switch a.Kind {
	case 1:
		return len(a.X) == n && len(a.Y) == m && len(a.Ray) == 0 && isMixture(p, a.X) &&
			haveLimits(p, a.Y, func(j int) *big.Rat { return toRat(p.C[j]) }) &&
			dot(a.Y, p.B).Cmp(dot(a.X, p.C)) == 0 && dot(a.X, p.C).Cmp(toRat(a.Value)) == 0
	case 2:
		return len(a.X) == 0 && len(a.Y) == m && len(a.Ray) == 0 && text(a.Value) == "0" &&
			haveLimits(p, a.Y, func(int) *big.Rat { return new(big.Rat) }) && dot(a.Y, p.B).Sign() > 0
	case 3:
		still := recipe.Program{A: p.A, B: row(strings.Repeat("0 ", m)), C: p.C}
		return len(a.X) == n && len(a.Y) == 0 && len(a.Ray) == n && text(a.Value) == "0" &&
			isMixture(p, a.X) && isMixture(still, a.Ray) && dot(a.Ray, p.C).Sign() < 0
	}
	return false
}

// solved returns the x with chosen columns·x = target, if it is the only one; independent tells whether the columns are.
func solved(p recipe.Program, chosen []int) (x []*big.Rat, independent, ok bool) {
	var rows [][]*big.Rat
	for i := range p.B {
		var r []*big.Rat
		for _, j := range chosen {
			r = append(r, toRat(p.A[i][j]))
		}
		rows = append(rows, append(r, toRat(p.B[i])))
	}
	for k := range chosen {
		pivot := k
		for pivot < len(rows) && rows[pivot][k].Sign() == 0 {
			pivot++
		}
		if pivot >= len(rows) {
			return nil, false, false
		}
		rows[k], rows[pivot] = rows[pivot], rows[k]
		for i := range rows {
			if i == k || rows[i][k].Sign() == 0 {
				continue
			}
			factor := new(big.Rat).Quo(rows[i][k], rows[k][k])
			for j := range rows[i] {
				rows[i][j] = new(big.Rat).Sub(rows[i][j], new(big.Rat).Mul(factor, rows[k][j]))
			}
		}
	}
	for i, r := range rows {
		last := r[len(chosen)]
		if i < len(chosen) {
			x = append(x, new(big.Rat).Quo(last, r[i]))
		} else if last.Sign() != 0 {
			return nil, true, false
		}
	}
	return x, true, true
}

// subsets returns all sets of numbers below n, as rising slices.
func subsets(n int) [][]int {
	all := [][]int{nil}
	for j := range n {
		for _, s := range all {
			all = append(all, append(slices.Clone(s), j))
		}
	}
	return all
}

// basicMixtures returns what all greatest sets of independent columns make the target of, as texts in order.
func basicMixtures(p recipe.Program) string {
	rank := 0
	for _, set := range subsets(len(p.C)) {
		if _, independent, _ := solved(p, set); independent {
			rank = max(rank, len(set))
		}
	}
	var found [][]api.Rat
	for _, set := range subsets(len(p.C)) {
		x, _, ok := solved(p, set)
		if !ok || len(set) != rank || slices.ContainsFunc(x, func(f *big.Rat) bool { return f.Sign() < 0 }) {
			continue
		}
		full := row(strings.Repeat("0 ", len(p.C)))
		for k, j := range set {
			full[j] = fromRat(x[k])
		}
		found = append(found, full)
	}
	slices.SortFunc(found, compareRows)
	found = slices.CompactFunc(found, func(x, y []api.Rat) bool { return compareRows(x, y) == 0 })
	return rowsText(found)
}

func compareRows(x, y []api.Rat) int {
	return slices.CompareFunc(toRats(x), toRats(y), (*big.Rat).Cmp)
}

// isBasic follows the definition of a basic mixture.
func isBasic(p recipe.Program, x []api.Rat) bool {
	var used []int
	for j, f := range x {
		if toRat(f).Sign() != 0 {
			used = append(used, j)
		}
	}
	_, independent, _ := solved(p, used)
	return independent
}

func toInts(x []int) []api.Rat {
	var out []api.Rat
	for _, n := range x {
		out = append(out, fromRat(big.NewRat(int64(n), 1)))
	}
	return out
}

// tuples calls do with all slices of n ints from 0 to most, in order.
func tuples(n, most int, front []int, do func(x []int)) {
	if len(front) == n {
		do(front)
		return
	}
	for i := range most + 1 {
		tuples(n, most, append(slices.Clone(front), i), do)
	}
}

// wholeMixture returns the first of the cheapest mixtures in whole numbers, if there is one.
func wholeMixture(p recipe.Program, most int) ([]int, bool) {
	var best []int
	tuples(len(p.C), most, nil, func(x []int) {
		l := toInts(x)
		if isMixture(p, l) && (best == nil || dot(l, p.C).Cmp(dot(toInts(best), p.C)) < 0) {
			best = x
		}
	})
	return best, best != nil
}

func sorted[T any](m map[string]T) []string {
	return slices.Sorted(maps.Keys(m))
}

// must returns the result of a call that has to succeed.
func must[T any](x T, e api.Errno) T {
	if e != api.OK {
		panic(e)
	}
	return x
}

// randomRats returns n fractions of a sort: 0 to 2 are small numbers, 3 small fractions, 4 such as small Rats can be at most.
func randomRats(r *rand.Rand, n, sort int) []api.Rat {
	var out []api.Rat
	for range n {
		a, b := r.Intn(3)-1, 1
		switch sort {
		case 1:
			a = r.Intn(3) * r.Intn(2)
		case 2:
			a = r.Intn(13) - 6
		case 3:
			a, b = r.Intn(13)-6, 1+r.Intn(6)
		case 4:
			a, b = r.Intn(1<<21-1)-(1<<20-1), 1+r.Intn(1<<20-1)
		}
		out = append(out, fromRat(big.NewRat(int64(a), int64(b))))
	}
	return out
}

func randomProgram(r *rand.Rand, m, n, sort int) recipe.Program {
	p := recipe.Program{B: randomRats(r, m, sort), C: randomRats(r, n, sort)}
	for range m {
		p.A = append(p.A, randomRats(r, n, sort))
	}
	return p
}

// withMixture changes a program such that it has a mixture in whole numbers; its last row may become a multiple of the first one. Sorts 0 to 2 only.
func withMixture(r *rand.Rand, p recipe.Program) recipe.Program {
	x := randomRats(r, len(p.C), 1)
	if len(p.A) > 1 && r.Intn(2) == 0 {
		last := slices.Clone(p.A[0])
		for j, f := range last {
			last[j] = fromRat(new(big.Rat).Mul(toRat(f), big.NewRat(-3, 2)))
		}
		p.A[len(p.A)-1] = last
	}
	for i, l := range p.A {
		p.B[i] = fromRat(dot(l, x))
	}
	return p
}

// withPrices changes a program such that no cost is below what its column is worth at some prices. Sorts 0 to 2 only.
func withPrices(r *rand.Rand, p recipe.Program) recipe.Program {
	y, over := randomRats(r, len(p.B), 0), randomRats(r, len(p.C), 1)
	for j := range p.C {
		p.C[j] = fromRat(new(big.Rat).Add(dot(y, column(p, j)), toRat(over[j])))
	}
	return p
}

// plainPrograms are such as need care.
func plainPrograms() []recipe.Program {
	const most, least = "1048575/1048574", "-1/1048575"
	return []recipe.Program{
		program("1 1", "2", "1 3"),
		program("1 1", "-1", "1 1"),
		program("1 -1", "0", "-1 0"),
		program("0", "0", "0"),
		program("0", "0", "5"),
		program("0", "0", "-5"),
		program("0", "1", "1"),
		program("0", "-1", "1"),
		program("1", "0", "-1"),
		program("-2", "-1", "-1"),
		program("1; 1", "1 1", "1"),
		program("1; 1", "1 2", "1"),
		program("1; -1", "1 -1", "-7"),
		program("1; 2; 3; 4; 5", "1 2 3 4 5", "1"),
		program("1; 2; 3; 4; 5", "1 2 3 4 6", "1"),
		program("0 0 0; 0 0 0", "0 0", "1 0 2"),
		program("0 0 0; 0 0 0", "0 0", "1 -1 2"),
		program("0 0 0; 0 0 0", "0 1", "1 -1 2"),
		program("1 1 1 1 1 1 1 1", "1", "0 0 0 0 0 0 0 0"),
		program("1 1 0 0; 1 1 0 0; 0 0 1 -1", "3 3 0", "1 1 1 -1"),
		program("1 1 0 0; 1 1 0 0; 0 0 1 -1", "3 3 0", "1 1 1 -2"),
		program("1 2 0; 0 0 1; 1 2 1", "4 1 5", "3 5 1"),
		// These make some rules of the choice of columns go round for ever.
		program("1 0 0 1/4 -8 -1 9; 0 1 0 1/2 -12 -1/2 3; 0 0 1 0 0 1 0", "0 0 1", "0 0 0 -3/4 20 -1/2 6"),
		program("1/4 -60 -1/25 9 1 0 0; 1/2 -90 -1/50 3 0 1 0; 0 0 1 0 0 0 1", "0 0 1", "-3/4 150 -1/50 6 0 0 0"),
		program("-2 -9 1 9 1 0; 1/3 1 -1/3 -2 0 1", "0 0", "-2 -3 1 12 0 0"),
		program("1 0 0 -3 -6 -5 2; 0 1 0 -5 -3 2 -1; 0 0 1 -6 -3 -2 5", "0 0 0", "0 0 0 2 -6 6 6"),
		program("1 0 0 -4 1 5 -5; 0 1 0 -4 -4 1 -3; 0 0 1 -2 5 -1 -2", "0 0 0", "0 0 0 3 -4 5 2"),
		program("1 0 0 4 -1 1 4; 0 1 0 -4 3 -1 -3; 0 0 1 1 0 3 0", "0 0 0", "0 0 0 0 -1 -2 -3"),
		// Here some rules visit all vertices.
		program("1 0 0 1 0 0; 20 1 0 0 1 0; 200 20 1 0 0 1", "1 100 10000", "-100 -10 -1 0 0 0"),
		program(most+" "+least, most, least+" "+least),
		program(most+" "+least, least, most+" "+most),
	}
}

// programs are of all sizes and kinds.
func programs() []recipe.Program {
	l := plainPrograms()
	r := rand.New(rand.NewSource(61))
	for k := range 240 {
		m, n, sort := 1+k%5, 1+r.Intn(8), k/5%5
		p := randomProgram(r, m, n, sort)
		if sort < 3 && k%3 > 0 {
			p = withMixture(r, p)
		}
		if sort < 3 && k%2 > 0 {
			p = withPrices(r, p)
		}
		l = append(l, p)
	}
	return append(l, randomProgram(r, 5, 8, 1), randomProgram(r, 5, 8, 4), randomProgram(r, 5, 5, 4))
}

// badRats are no small Rats, by what is wrong with them.
func badRats() map[string]api.Rat {
	word := func(n uint32) api.Int { return api.Int{Words: []uint32{n}} }
	minus := func(n uint32) api.Int { return api.Int{Neg: true, Words: []uint32{n}} }
	return map[string]api.Rat{
		"nothing":                 {},
		"no denominator":          {Num: word(1)},
		"no denominator of zero":  {Num: api.Int{}, Den: api.Int{}},
		"a denominator below 0":   {Num: word(1), Den: minus(1)},
		"not in lowest terms":     {Num: word(2), Den: word(4)},
		"a zero of halves":        {Den: word(2)},
		"a negative zero":         {Num: api.Int{Neg: true}, Den: word(1)},
		"a zero word at the top":  {Num: api.Int{Words: []uint32{1, 0}}, Den: word(1)},
		"a zero word":             {Num: word(0), Den: word(1)},
		"a zero word below":       {Num: word(1), Den: api.Int{Words: []uint32{1, 0}}},
		"2^20":                    {Num: word(1 << 20), Den: word(1)},
		"-2^20":                   {Num: minus(1 << 20), Den: word(1)},
		"a 2^20-th":               {Num: word(1), Den: word(1 << 20)},
		"two words":               {Num: api.Int{Words: []uint32{1, 1}}, Den: word(1)},
		"two words below":         {Num: word(1), Den: api.Int{Words: []uint32{1, 1}}},
		"too many words":          {Num: api.Int{Words: slices.Repeat([]uint32{1}, api.MaxWords+1)}, Den: word(1)},
		"far too many words":      {Num: word(1), Den: api.Int{Words: slices.Repeat([]uint32{1}, 1_000_000)}},
		"two long parts the same": {Num: api.Int{Words: slices.Repeat([]uint32{7}, 256)}, Den: api.Int{Words: slices.Repeat([]uint32{7}, 256)}},
	}
}

// badPrograms are no programs, by what is wrong with them.
func badPrograms() map[string]recipe.Program {
	ones := func(n int) []api.Rat { return row(strings.Repeat("1 ", n)) }
	sized := func(rows, columns, b, c int) recipe.Program {
		p := recipe.Program{B: ones(b), C: ones(c)}
		for range rows {
			p.A = append(p.A, ones(columns))
		}
		return p
	}
	l := map[string]recipe.Program{
		"nothing":             {},
		"no rows":             sized(0, 2, 0, 2),
		"6 rows":              sized(6, 2, 6, 2),
		"very many rows":      {A: make([][]api.Rat, 1_000_000), B: make([]api.Rat, 1_000_000), C: ones(1)},
		"no columns":          sized(2, 0, 2, 0),
		"9 columns":           sized(2, 9, 2, 9),
		"very many columns":   {A: [][]api.Rat{make([]api.Rat, 1_000_000)}, B: ones(1), C: make([]api.Rat, 1_000_000)},
		"a row less":          sized(1, 2, 2, 2),
		"a row more":          sized(3, 2, 2, 2),
		"a column less":       sized(2, 1, 2, 2),
		"a column more":       sized(2, 3, 2, 2),
		"no target":           sized(2, 2, 0, 2),
		"a very long target":  {A: matrix("1 1"), B: make([]api.Rat, 1_000_000), C: ones(2)},
		"no costs":            sized(2, 2, 2, 0),
		"rows without others": {A: matrix("1 1; 1 1")},
		"costs only":          {C: ones(2)},
	}
	uneven := sized(3, 2, 3, 2)
	uneven.A[2] = ones(1)
	l["a last row of another length"] = uneven
	bad := badRats()
	for _, what := range sorted(bad) {
		for at := range 4 {
			p := sized(2, 2, 2, 2)
			p.A[at/2][at%2] = bad[what]
			l[fmt.Sprintf("%s in A, %d", what, at)] = p
		}
		for at := range 2 {
			p, q := sized(2, 2, 2, 2), sized(2, 2, 2, 2)
			p.B[at], q.C[at] = bad[what], bad[what]
			l[fmt.Sprintf("%s in B, %d", what, at)] = p
			l[fmt.Sprintf("%s in C, %d", what, at)] = q
		}
	}
	return l
}
