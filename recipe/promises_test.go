package recipe_test

import (
	"fmt"
	"math/big"
	"slices"
	"testing"

	"canting/api"
	"canting/recipe"
)

// TestP6_Examples checks the examples of the chapter.
func TestP6_Examples(t *testing.T) {
	check := func(got, want string) {
		t.Helper()
		if got != want {
			t.Errorf("%s, want %s", got, want)
		}
	}
	two := program("1 1", "2", "1 3")
	check(answerText(must(recipe.Solve(two))), "kind 1, value 2, X 2 0, Y 1, Ray ")
	check(rowsText(must(recipe.Vertices(two))), "0 2; 2 0")
	against := program("1 1", "-1", "0 0")
	check(fmt.Sprint(must(recipe.Solve(against)).Kind), "2")
	check(fmt.Sprint(must(recipe.Check(against, recipe.Answer{Kind: 2, Value: rational("0"), Y: row("-1")}))), "true")
	free := program("1 -1", "0", "-1 0")
	check(fmt.Sprint(must(recipe.Solve(free)).Kind), "3")
	check(fmt.Sprint(must(recipe.Check(free, recipe.Answer{Kind: 3, Value: rational("0"), X: row("0 0"), Ray: row("1 1")}))), "true")
	stock := matrix("1 0; 0 1")
	half := must(recipe.Mix(stock, row("1/2 1/2"), row("4 2")))
	check(fmt.Sprintln(half.Kind, text(half.Value), text(half.X...)), "1 3 1/2 1/2\n")
	check(fmt.Sprint(must(recipe.Mix(stock, row("1 1"), row("4 2"))).Kind), "2")
	check(fmt.Sprint(must(recipe.Whole(two, 1)), must(recipe.Whole(two, 2))), "[1 1] [2 0]")
}

// plus returns x + times·ray.
func plus(x, ray []api.Rat, times *big.Rat) []api.Rat {
	var out []api.Rat
	for i := range x {
		step := new(big.Rat).Mul(toRat(ray[i]), times)
		out = append(out, fromRat(step.Add(step, toRat(x[i]))))
	}
	return out
}

func TestP6_5_WeakDuality(t *testing.T) {
	for k, p := range programs() {
		if k > 60 && k%4 > 0 {
			continue
		}
		first, mixtures := must(recipe.Solve(p)), someMixtures(p)
		for _, a := range changedAnswers(first) {
			if !must(recipe.Check(p, a)) {
				continue
			}
			if a.Kind != first.Kind || text(a.Value) != text(first.Value) {
				t.Errorf("%s: proofs %s and %s", programText(p), answerText(first), answerText(a))
			}
			checkBound(t, p, a, mixtures)
		}
	}
}

// someMixtures returns the basic mixtures of a program, what lies in the middle of some, and a mixture in whole numbers.
func someMixtures(p recipe.Program) [][]api.Rat {
	all := must(recipe.Vertices(p))
	for i := range all {
		all = append(all, plus(plus(all[i], all[i], big.NewRat(-1, 2)), all[0], big.NewRat(1, 2)))
	}
	if len(p.C) <= 5 {
		if x, e := recipe.Whole(p, 2); e == api.OK {
			all = append(all, toInts(x))
		}
	}
	return all
}

// checkBound checks what a proof says of all mixtures.
func checkBound(t *testing.T, p recipe.Program, a recipe.Answer, mixtures [][]api.Rat) {
	t.Helper()
	for _, x := range mixtures {
		if a.Kind == 2 || a.Kind == 1 && dot(p.C, x).Cmp(toRat(a.Value)) < 0 {
			t.Errorf("%s: %s, but there is %s", programText(p), answerText(a), text(x...))
		}
	}
	if a.Kind != 3 {
		return
	}
	for _, low := range []int64{0, -1000, -1 << 40} {
		times := new(big.Rat).Sub(dot(p.C, a.X), big.NewRat(low-1, 1))
		times.Quo(times, dot(p.C, a.Ray)).Abs(times)
		if x := plus(a.X, a.Ray, times); !isMixture(p, x) || dot(p.C, x).Cmp(big.NewRat(low, 1)) >= 0 {
			t.Errorf("%s: %s, but %s is no mixture with a cost below %d", programText(p), answerText(a), text(x...), low)
		}
	}
}

func TestP6_6_StrongDuality(t *testing.T) {
	for _, p := range programs() {
		a, e := recipe.Solve(p)
		if ok, f := recipe.Check(p, a); !ok || e != api.OK || f != api.OK {
			t.Errorf("%s: %s, %v, Check %v, %v", programText(p), answerText(a), e, ok, f)
		}
	}
}

// TestP6_6_AllSmall solves all programs of two rows and three columns with elements 0, 1 and -1, each for one of some costs.
func TestP6_6_AllSmall(t *testing.T) {
	costs := []string{"-1 1 0", "-1 -1 -1", "2 1 -1", "1 0 1"}
	number := 0
	tuples(8, 2, nil, func(x []int) {
		l := toInts(x)
		for i, n := range x {
			l[i] = fromRat(big.NewRat(int64(n-1), 1))
		}
		p := recipe.Program{A: [][]api.Rat{l[:3], l[3:6]}, B: l[6:], C: row(costs[number/7%len(costs)])}
		number++
		a, e := recipe.Solve(p)
		if e != api.OK || !isProof(p, a) || a.Kind != 2 && !isBasic(p, a.X) {
			t.Errorf("%s: %s, %v", programText(p), answerText(a), e)
		}
	})
}

func TestP6_7_Vertices(t *testing.T) {
	for _, p := range programs() {
		a, l := must(recipe.Solve(p)), must(recipe.Vertices(p))
		if (a.Kind == 2) != (len(l) == 0) {
			t.Errorf("%s: %s, vertices %s", programText(p), answerText(a), rowsText(l))
		}
		if a.Kind != 1 {
			continue
		}
		least := slices.MinFunc(l, func(x, y []api.Rat) int { return dot(p.C, x).Cmp(dot(p.C, y)) })
		if dot(p.C, least).Cmp(toRat(a.Value)) != 0 {
			t.Errorf("%s: %s, vertices %s", programText(p), answerText(a), rowsText(l))
		}
	}
}

func TestP6_8_WholeNumbers(t *testing.T) {
	reached, above := 0, 0
	for _, p := range smallPrograms() {
		a := must(recipe.Solve(p))
		x, e := recipe.Whole(p, 3)
		if e != api.OK || a.Kind != 1 {
			continue
		}
		switch order := dot(p.C, toInts(x)).Cmp(toRat(a.Value)); {
		case order < 0:
			t.Errorf("%s: %s, Whole %v", programText(p), answerText(a), x)
		case order == 0:
			reached++
		default:
			above++
		}
	}
	if reached < 20 || above < 5 {
		t.Errorf("not enough of each: %d, %d", reached, above)
	}
}

func isSmall(f api.Rat) bool {
	return toBig(f.Num).BitLen() <= 20 && toBig(f.Den).BitLen() <= 20
}

func TestP6_9_Scaling(t *testing.T) {
	scaled := 0
	for k, p := range programs() {
		factor := big.NewRat([]int64{1, 2, 3, 10, 1000}[k%5], 1)
		q := recipe.Program{A: p.A, B: p.B}
		valid := true
		for _, f := range p.C {
			cost := fromRat(new(big.Rat).Mul(toRat(f), factor))
			q.C = append(q.C, cost)
			valid = valid && isSmall(cost)
		}
		if !valid {
			continue
		}
		scaled++
		a := must(recipe.Solve(p))
		b, e := recipe.Solve(q)
		if e != api.OK || b.Kind != a.Kind || toRat(b.Value).Cmp(new(big.Rat).Mul(toRat(a.Value), factor)) != 0 {
			t.Errorf("%s: %s, with costs times %s: %s, %v", programText(p), answerText(a), factor, answerText(b), e)
		}
	}
	if scaled < 150 {
		t.Errorf("not enough programs: %d", scaled)
	}
}
