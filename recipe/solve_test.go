package recipe_test

import (
	"math/big"
	"math/rand"
	"slices"
	"strings"
	"testing"

	"canting/api"
	"canting/recipe"
)

func isZeroAnswer(a recipe.Answer) bool {
	isZero := func(a api.Int) bool { return !a.Neg && len(a.Words) == 0 }
	return a.Kind == 0 && isZero(a.Value.Num) && isZero(a.Value.Den) && len(a.X) == 0 && len(a.Y) == 0 && len(a.Ray) == 0
}

func TestP6_1_Solve(t *testing.T) {
	kinds := map[int]int{}
	for _, p := range programs() {
		a, e := recipe.Solve(p)
		if e != api.OK || !isProof(p, a) {
			t.Errorf("%s: %s, %v: no proof", programText(p), answerText(a), e)
			continue
		}
		if a.Kind != 2 && !isBasic(p, a.X) {
			t.Errorf("%s: %s: not basic", programText(p), answerText(a))
		}
		for _, f := range slices.Concat(a.X, a.Y, a.Ray, []api.Rat{a.Value}) {
			if len(f.Num.Words) >= 24 || len(f.Den.Words) >= 24 {
				t.Errorf("%s: %s: an element of 24 words", programText(p), answerText(a))
			}
		}
		kinds[a.Kind]++
	}
	for kind := 1; kind <= 3; kind++ {
		if kinds[kind] < 40 {
			t.Errorf("not enough programs of each kind: %v", kinds)
		}
	}
}

func TestP6_1_SolveKnown(t *testing.T) {
	for _, x := range []struct {
		p     recipe.Program
		kind  int
		value string
	}{
		{program("1 1", "2", "1 3"), 1, "2"},
		{program("1 1", "-1", "1 1"), 2, "0"},
		{program("1 -1", "0", "-1 0"), 3, "0"},
		{program("0", "0", "5"), 1, "0"},
		{program("0", "0", "-5"), 3, "0"},
		{program("0", "-1", "1"), 2, "0"},
		{program("-2", "-1", "-1"), 1, "-1/2"},
		{program("1; 2; 3; 4; 5", "1 2 3 4 5", "1/3"), 1, "1/3"},
		{program("1; 2; 3; 4; 5", "1 2 3 4 6", "1"), 2, "0"},
		{program("1 1 0 0; 1 1 0 0; 0 0 1 -1", "3 3 0", "1 1 1 -1"), 1, "3"},
		{program("1 1 0 0; 1 1 0 0; 0 0 1 -1", "3 3 0", "1 1 1 -2"), 3, "0"},
		{program("1 0 0 1/4 -8 -1 9; 0 1 0 1/2 -12 -1/2 3; 0 0 1 0 0 1 0", "0 0 1", "0 0 0 -3/4 20 -1/2 6"), 1, "-5/4"},
		{program("1/4 -60 -1/25 9 1 0 0; 1/2 -90 -1/50 3 0 1 0; 0 0 1 0 0 0 1", "0 0 1", "-3/4 150 -1/50 6 0 0 0"), 1, "-1/20"},
		{program("1 0 0 1 0 0; 20 1 0 0 1 0; 200 20 1 0 0 1", "1 100 10000", "-100 -10 -1 0 0 0"), 1, "-10000"},
	} {
		a, e := recipe.Solve(x.p)
		if a.Kind != x.kind || text(a.Value) != x.value || e != api.OK {
			t.Errorf("%s: %s, %v, want kind %d, value %s", programText(x.p), answerText(a), e, x.kind, x.value)
		}
	}
}

func TestP6_1_SolveErrors(t *testing.T) {
	bad := badPrograms()
	for _, what := range sorted(bad) {
		if a, e := recipe.Solve(bad[what]); e != api.ErrArg || !isZeroAnswer(a) {
			t.Errorf("%s: %s, %v", what, answerText(a), e)
		}
	}
}

// changedList returns lists that differ from one in an element, in the length or in all elements.
func changedList(l []api.Rat) [][]api.Rat {
	change := func(f api.Rat, times, more string) api.Rat {
		g := new(big.Rat).Mul(toRat(f), fraction(times))
		return fromRat(g.Add(g, fraction(more)))
	}
	out := [][]api.Rat{nil, append(slices.Clone(l), rational("0"))}
	if len(l) > 0 {
		out = append(out, l[:len(l)-1])
	}
	for _, by := range [][2]string{{"1", "1"}, {"1", "-1"}, {"-1", "0"}, {"2", "0"}, {"1/3", "0"}, {"0", "0"}, {"1", "1/1000000"}} {
		all := slices.Clone(l)
		for i := range l {
			one := slices.Clone(l)
			one[i] = change(l[i], by[0], by[1])
			all[i] = one[i]
			out = append(out, one)
		}
		out = append(out, all)
	}
	bad := badRats()
	for i := range l {
		for _, what := range []string{"nothing", "a zero of halves", "not in lowest terms", "a negative zero", "too many words"} {
			one := slices.Clone(l)
			one[i] = bad[what]
			out = append(out, one)
		}
		one := slices.Clone(l)
		one[i] = api.Rat{Num: fromBig(new(big.Int).Lsh(big.NewInt(3), 24*32)), Den: fromBig(big.NewInt(1))}
		out = append(out, one)
	}
	return out
}

// changedAnswers returns answers that differ a little from one.
func changedAnswers(a recipe.Answer) []recipe.Answer {
	out := []recipe.Answer{a, {}}
	for kind := -1; kind <= 4; kind++ {
		b := a
		b.Kind = kind
		out = append(out, b)
	}
	for _, l := range changedList(a.X) {
		b := a
		b.X = l
		out = append(out, b)
	}
	for _, l := range changedList(a.Y) {
		b := a
		b.Y = l
		out = append(out, b)
	}
	for _, l := range changedList(a.Ray) {
		b := a
		b.Ray = l
		out = append(out, b)
	}
	for _, l := range changedList([]api.Rat{a.Value}) {
		if len(l) > 0 {
			b := a
			b.Value = l[0]
			out = append(out, b)
		}
	}
	b := a
	b.X, b.Ray = b.Ray, b.X
	c := a
	c.X, c.Y, c.Ray = append(slices.Clone(a.X), a.Y...), nil, a.X
	return append(out, b, c)
}

func TestP6_1_Check(t *testing.T) {
	results := map[int][2]int{}
	for k, p := range programs() {
		if k > 100 && k%3 > 0 {
			continue
		}
		for _, a := range changedAnswers(must(recipe.Solve(p))) {
			want := isProof(p, a)
			if got, e := recipe.Check(p, a); got != want || e != api.OK {
				t.Errorf("%s: Check of %s: %v, %v, want %v", programText(p), answerText(a), got, e, want)
			}
			n := results[a.Kind]
			if want {
				n[1]++
			} else {
				n[0]++
			}
			results[a.Kind] = n
		}
	}
	for kind := 1; kind <= 3; kind++ {
		if results[kind][0] < 500 || results[kind][1] < 100 {
			t.Errorf("not enough answers of each kind: %v", results)
		}
	}
}

// TestP6_1_CheckOther checks proofs that are not like those of Solve, and answers that miss a single condition.
func TestP6_1_CheckOther(t *testing.T) {
	answer := func(kind int, value, x, y, ray string) recipe.Answer {
		return recipe.Answer{Kind: kind, Value: rational(value), X: row(x), Y: row(y), Ray: row(ray)}
	}
	same, two := program("1 1", "2", "1 1"), program("1 1", "2", "1 3")
	against, free := program("1 1", "-1", "1 1"), program("1 -1", "0", "-1 0")
	for _, x := range []struct {
		p    recipe.Program
		a    recipe.Answer
		want bool
	}{
		{same, answer(1, "2", "1 1", "1", ""), true}, // X need not be basic
		{same, answer(1, "2", "1/3 5/3", "1", ""), true},
		{same, answer(1, "2", "3 -1", "1", ""), false},
		{same, answer(1, "2", "1 2", "1", ""), false},
		{same, answer(1, "0", "2 0", "0", ""), false},
		{same, answer(1, "1", "2 0", "1", ""), false},
		{same, answer(1, "2", "2 0", "1/2", ""), false},
		{same, answer(1, "2", "2 0", "1", "0"), false},
		{same, answer(1, "2", "2 0", "1", "0 0"), false},
		{same, answer(0, "2", "2 0", "1", ""), false},
		{two, answer(1, "2", "2 0", "1", ""), true},
		{two, answer(1, "6", "0 2", "3", ""), false}, // the first column is worth more than its cost
		{two, answer(1, "4", "1 1", "2", ""), false},
		{two, answer(1, "4", "1 1", "1", ""), false},
		{two, answer(1, "2", "1 1", "1", ""), false},
		{against, answer(2, "0", "", "-1", ""), true},
		{against, answer(2, "0", "", "-1/7", ""), true},
		{against, answer(2, "1", "", "-1", ""), false},
		{against, answer(2, "0", "", "0", ""), false},
		{against, answer(2, "0", "", "1", ""), false},
		{against, answer(2, "0", "0 0", "-1", ""), false},
		{against, answer(2, "0", "", "-1", "0 0"), false},
		{against, answer(2, "0", "", "-1 0", ""), false},
		{against, answer(2, "0", "", "", ""), false},
		{against, answer(3, "0", "0 0", "", "1 1"), false},
		{against, answer(-2, "0", "", "-1", ""), false},
		{against, recipe.Answer{Kind: 2, Y: row("-1")}, false}, // zero is 0/1
		{free, answer(3, "0", "0 0", "", "1 1"), true},
		{free, answer(3, "0", "5 5", "", "1/2 1/2"), true}, // X need not be basic
		{free, answer(3, "0", "5 4", "", "1 1"), false},
		{free, answer(3, "0", "-1 -1", "", "1 1"), false},
		{free, answer(3, "0", "0 0", "", "1 2"), false},
		{free, answer(3, "0", "0 0", "", "-1 -1"), false},
		{free, answer(3, "0", "0 0", "", "0 0"), false},
		{free, answer(3, "-1", "0 0", "", "1 1"), false},
		{free, answer(3, "0", "0 0", "0", "1 1"), false},
		{free, answer(3, "0", "", "", "1 1"), false},
		{free, recipe.Answer{Kind: 3, X: row("0 0"), Ray: row("1 1")}, false},
		{program("1 -1", "0", "1 -1"), answer(3, "0", "0 0", "", "1 1"), false}, // a cost of zero
		{program("1 0; 0 0", "0 1", "0 -1"), answer(3, "0", "0 0", "", "0 1"), false},
	} {
		if isProof(x.p, x.a) != x.want {
			t.Fatalf("%s: %s is not as the test says", programText(x.p), answerText(x.a))
		}
		if got, e := recipe.Check(x.p, x.a); got != x.want || e != api.OK {
			t.Errorf("%s: Check of %s: %v, %v, want %v", programText(x.p), answerText(x.a), got, e, x.want)
		}
	}
}

// TestP6_1_CheckLong checks elements of 24 words and more.
func TestP6_1_CheckLong(t *testing.T) {
	zero := func() api.Rat { return rational("0") }
	words := func(n int) api.Int { return api.Int{Words: slices.Repeat([]uint32{1<<32 - 1}, n)} }
	minus := func(a api.Int) api.Int { return api.Int{Neg: true, Words: a.Words} }
	one := words(1)
	one.Words[0] = 1
	for _, n := range []int{1, 23, 24, 25, 32, 256, 257} {
		for _, f := range []api.Rat{{Num: words(n), Den: one}, {Num: one, Den: words(n)}} {
			g := api.Rat{Num: minus(f.Num), Den: f.Den}
			pair := []api.Rat{f, f}
			for _, x := range []struct {
				p recipe.Program
				a recipe.Answer
			}{
				{program("1 -1", "0", "0 0"), recipe.Answer{Kind: 1, Value: zero(), X: pair, Y: row("0")}},
				{program("0 0", "0", "0 0"), recipe.Answer{Kind: 1, Value: zero(), X: row("0 0"), Y: []api.Rat{f}}},
				{program("0 0", "0", "0 0"), recipe.Answer{Kind: 1, Value: zero(), X: row("0 0"), Y: []api.Rat{g}}},
				{program("1 1", "-1", "1 1"), recipe.Answer{Kind: 2, Value: zero(), Y: []api.Rat{g}}},
				{program("1 -1", "0", "-1 0"), recipe.Answer{Kind: 3, Value: zero(), X: row("0 0"), Ray: pair}},
				{program("1 -1", "0", "-1 0"), recipe.Answer{Kind: 3, Value: zero(), X: pair, Ray: row("1 1")}},
			} {
				if got, e := recipe.Check(x.p, x.a); got != (n <= 24) || e != api.OK {
					t.Errorf("%s, %d words: Check of kind %d: %v, %v", programText(x.p), n, x.a.Kind, got, e)
				}
			}
		}
	}
}

// longRats returns fractions with parts of 24 words that have no divisors in common.
func longRats(n int) []api.Rat {
	r := rand.New(rand.NewSource(64))
	top := new(big.Int).Lsh(big.NewInt(1), 24*32)
	var out []api.Rat
	for range n {
		num, den := new(big.Int).Rand(r, top), new(big.Int).Rand(r, top)
		out = append(out, fromRat(new(big.Rat).SetFrac(num, den.SetBit(den, 24*32-1, 1))))
	}
	return out
}

// TestP6_1_CheckWide checks sums of as many and as long fractions as there can be.
func TestP6_1_CheckWide(t *testing.T) {
	l := longRats(8)
	check := func(p recipe.Program, a recipe.Answer) {
		t.Helper()
		if got, e := recipe.Check(p, a); got != isProof(p, a) || e != api.OK {
			t.Errorf("Check: %v, %v", got, e)
		}
	}
	twice := append(slices.Clone(l[:4]), l[:4]...)
	for _, f := range []string{"1", "1048575/1048574", "1/1048573"} {
		g := "-" + f
		p := program(strings.Join([]string{f, f, f, f, g, g, g, g}, " "), "0", "0 0 0 0 0 0 0 0")
		a := recipe.Answer{Kind: 1, Value: rational("0"), X: twice, Y: row("0")}
		check(p, a)
		a.X = l
		check(p, a)
		p.C = p.A[0]
		a.Y = row("1")
		check(p, a)
		a.X = twice
		check(p, a)
		p.C = row("-1 0 0 0 0 0 0 0")
		check(p, recipe.Answer{Kind: 3, Value: rational("0"), X: twice, Ray: twice})
		check(p, recipe.Answer{Kind: 3, Value: rational("0"), X: twice, Ray: l})
		p = program(strings.Join([]string{f, f, f, f, f}, "; "), "-1 1 2 -3 0", "0")
		check(p, recipe.Answer{Kind: 2, Value: rational("0"), Y: l[:5]})
		for i, x := range l[:5] {
			l[i].Num.Neg = !x.Num.Neg
		}
		check(p, recipe.Answer{Kind: 2, Value: rational("0"), Y: l[:5]})
	}
}

func TestP6_1_CheckErrors(t *testing.T) {
	bad := badPrograms()
	answers := []recipe.Answer{{}, {Kind: 1, Value: rational("1"), X: row("1 0"), Y: row("1 0")}, {Kind: 7, X: make([]api.Rat, 1_000_000)}}
	for _, what := range sorted(bad) {
		for _, a := range answers {
			if got, e := recipe.Check(bad[what], a); got || e != api.ErrArg {
				t.Errorf("%s: Check: %v, %v", what, got, e)
			}
		}
	}
	p := program("1 1", "2", "1 3")
	long := make([]api.Rat, 1_000_000)
	for kind := -1; kind <= 5; kind++ {
		for _, a := range []recipe.Answer{{Kind: kind}, {Kind: kind, X: long}, {Kind: kind, Y: long}, {Kind: kind, Ray: long}, {Kind: kind, X: long[:2], Y: long[:1]}, {Kind: kind, X: long[:2], Ray: long[:2]}} {
			if got, e := recipe.Check(p, a); got || e != api.OK {
				t.Errorf("Check of kind %d: %v, %v", kind, got, e)
			}
		}
	}
}

// mixing returns the program that Mix is for.
func mixing(stock [][]api.Rat, target, price []api.Rat) recipe.Program {
	p := recipe.Program{B: append(slices.Clone(target), rational("1")), C: price}
	for k := range target {
		var l []api.Rat
		for _, dye := range stock {
			l = append(l, dye[k])
		}
		p.A = append(p.A, l)
	}
	p.A = append(p.A, row(strings.Repeat("1 ", len(stock))))
	return p
}

func TestP6_3_Mix(t *testing.T) {
	r := rand.New(rand.NewSource(63))
	kinds := map[int]int{}
	check := func(stock [][]api.Rat, target, price []api.Rat) {
		p := mixing(stock, target, price)
		a, e := recipe.Mix(stock, target, price)
		if e != api.OK || !isProof(p, a) || a.Kind == 3 || a.Kind == 1 && !isBasic(p, a.X) {
			t.Errorf("Mix(%s, %s, %s): %s, %v", rowsText(stock), text(target...), text(price...), answerText(a), e)
		}
		kinds[a.Kind]++
	}
	for k := range 200 {
		size, n, sort := 1+k%4, 1+k/4%8, r.Intn(5)
		var stock [][]api.Rat
		for range n {
			stock = append(stock, randomRats(r, size, sort))
		}
		target, price := randomRats(r, size, sort), randomRats(r, n, sort)
		check(stock, target, price)
		check(stock, stock[r.Intn(n)], price)
		middle := slices.Clone(stock[0])
		for i, f := range stock[n-1] {
			if sort == 4 {
				break
			}
			sum := new(big.Rat).Add(toRat(f), toRat(middle[i]))
			middle[i] = fromRat(sum.Mul(sum, big.NewRat(1, 2)))
		}
		check(stock, middle, price)
	}
	if kinds[1] < 100 || kinds[2] < 50 {
		t.Errorf("not enough mixtures of each kind: %v", kinds)
	}
}

func TestP6_3_MixErrors(t *testing.T) {
	check := func(what string, stock [][]api.Rat, target, price []api.Rat) {
		t.Helper()
		if a, e := recipe.Mix(stock, target, price); e != api.ErrArg || !isZeroAnswer(a) {
			t.Errorf("%s: %s, %v", what, answerText(a), e)
		}
	}
	two := matrix("1 0; 0 1")
	check("nothing", nil, nil, nil)
	check("no dyes", nil, row("1"), nil)
	check("no dyes, but a price", nil, row("1"), row("1"))
	check("9 dyes", slices.Repeat(matrix("1"), 9), row("1"), row("1 1 1 1 1 1 1 1 1"))
	check("very many dyes", slices.Repeat(matrix("1"), 100000), row("1"), slices.Repeat(row("1"), 100000))
	check("no components", [][]api.Rat{{}, {}}, nil, row("1 1"))
	check("5 components", matrix("1 1 1 1 1"), row("1 1 1 1 1"), row("1"))
	check("a component less", matrix("1 0; 0"), row("1 1"), row("1 1"))
	check("a component more", matrix("1 0; 0 1 2"), row("1 1"), row("1 1"))
	check("components in the second dye only", matrix("; 0 1"), nil, row("1 1"))
	check("no target", two, nil, row("1 1"))
	check("a short target", two, row("1"), row("1 1"))
	check("a long target", two, row("1 1 1"), row("1 1"))
	check("a very long target", two, make([]api.Rat, 1_000_000), row("1 1"))
	check("no prices", two, row("1 1"), nil)
	check("a price less", two, row("1 1"), row("1"))
	check("a price more", two, row("1 1"), row("1 1 1"))
	check("very many prices", two, row("1 1"), make([]api.Rat, 1_000_000))
	bad := badRats()
	for _, what := range sorted(bad) {
		for at := range 2 {
			for component := range 2 {
				stock := matrix("1 0; 0 1")
				stock[at][component] = bad[what]
				check(what+" in the stock", stock, row("1 1"), row("1 1"))
			}
			target, price := row("1 1"), row("1 1")
			target[at], price[at] = bad[what], bad[what]
			check(what+" in the target", two, target, row("1 1"))
			check(what+" in the prices", two, row("1 1"), price)
		}
	}
}
