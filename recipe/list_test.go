package recipe_test

import (
	"math"
	"math/rand"
	"slices"
	"strings"
	"testing"

	"canting/api"
	"canting/recipe"
)

func TestP6_2_Vertices(t *testing.T) {
	counts := map[bool]int{}
	for _, p := range programs() {
		l, e := recipe.Vertices(p)
		if want := basicMixtures(p); rowsText(l) != want || e != api.OK {
			t.Errorf("%s: Vertices %s, %v, want %s", programText(p), rowsText(l), e, want)
		}
		for _, x := range l {
			if !isMixture(p, x) || !isBasic(p, x) {
				t.Errorf("%s: Vertices has %s", programText(p), text(x...))
			}
		}
		counts[len(l) > 1]++
	}
	if counts[true] < 60 || counts[false] < 60 {
		t.Errorf("not enough programs of each kind: %v", counts)
	}
}

func TestP6_2_VerticesKnown(t *testing.T) {
	for _, x := range []struct {
		p    recipe.Program
		want string
	}{
		{program("1 1", "2", "1 3"), "0 2; 2 0"},
		{program("1 1", "-1", "1 1"), ""},
		{program("1 -1", "0", "-1 0"), "0 0"},
		{program("1 2 4", "1", "0 0 0"), "0 0 1/4; 0 1/2 0; 1 0 0"},
		{program("1 1; 1 -1", "2 0", "0 0"), "1 1"},
		{program("1 1; 2 2", "2 4", "0 0"), "0 2; 2 0"},
		{program("1 1; 2 2", "2 5", "0 0"), ""},
		{program("0 1 0", "3", "0 0 0"), "0 3 0"},
		{program("0 0", "0", "0 0"), "0 0"},
		{program("0 0", "1", "0 0"), ""},
		{program("1 1 0 0; 0 0 1 1", "10 9", "0 0 0 0"), "0 10 0 9; 0 10 9 0; 10 0 0 9; 10 0 9 0"},
		{program("1 1 0 0; 0 0 1 1; 1 0 1 0; 0 1 0 1", "1 1 1 1", "0 0 0 0"), "0 1 1 0; 1 0 0 1"},
	} {
		if l, e := recipe.Vertices(x.p); rowsText(l) != x.want || e != api.OK {
			t.Errorf("%s: Vertices %s, %v, want %s", programText(x.p), rowsText(l), e, x.want)
		}
	}
}

func TestP6_2_VerticesErrors(t *testing.T) {
	bad := badPrograms()
	for _, what := range sorted(bad) {
		if l, e := recipe.Vertices(bad[what]); len(l) != 0 || e != api.ErrArg {
			t.Errorf("%s: %s, %v", what, rowsText(l), e)
		}
	}
}

// smallPrograms have so few columns that all mixtures in whole numbers can be listed.
func smallPrograms() []recipe.Program {
	var l []recipe.Program
	for _, p := range programs() {
		if len(p.C) <= 4 {
			l = append(l, p)
		}
	}
	r := rand.New(rand.NewSource(65))
	for k := range 120 {
		p := randomProgram(r, 1+k%3, 2+k%3, k%3)
		l = append(l, withMixture(r, p), withPrices(r, withMixture(r, p)))
	}
	return append(l, program("1 1 1 1 1", "3", "0 0 0 0 0"), program("1/2 1/3 1/5 1/7 1", "2", "1 -1/2 1 -1 3/5"))
}

func TestP6_4_Whole(t *testing.T) {
	r := rand.New(rand.NewSource(66))
	results := map[api.Errno]int{}
	for _, p := range smallPrograms() {
		most := r.Intn(4)
		if len(p.C) < 3 {
			most = r.Intn(7)
		}
		best, ok := wholeMixture(p, most)
		x, e := recipe.Whole(p, most)
		results[e]++
		if ok && (e != api.OK || !slices.Equal(x, best)) || !ok && (e != api.ErrNone || len(x) != 0) {
			t.Errorf("%s: Whole up to %d: %v, %v, want %v, %v", programText(p), most, x, e, best, ok)
		}
	}
	if results[api.OK] < 60 || results[api.ErrNone] < 40 {
		t.Errorf("not enough programs of each kind: %v", results)
	}
}

func TestP6_4_WholeKnown(t *testing.T) {
	zeros := recipe.Program{A: matrix("0 0 0 0 0"), B: row("0"), C: row("0 0 0 0 0")}
	falling := recipe.Program{A: zeros.A, B: zeros.B, C: row("-1 0 -1/1048575 0 1")}
	five := program("1 2 3 4 5; 1 1 1 1 1", "40 12", "5 1 4 1 3")
	for _, x := range []struct {
		p    recipe.Program
		most int
		want []int
	}{
		{program("1 1", "2", "1 3"), 1, []int{1, 1}},
		{program("1 1", "2", "1 3"), 2, []int{2, 0}},
		{program("1 1", "2", "1 3"), 6, []int{2, 0}},
		{program("1 1", "2", "1 1"), 6, []int{0, 2}},
		{program("1 1", "12", "1 1"), 6, []int{6, 6}},
		{program("1", "0", "1"), 0, []int{0}},
		{program("1/1048575", "6/1048575", "1"), 6, []int{6}},
		{program("1048575/1048574 -1", "1/1048574", "-1/1048575 -1/1048573"), 6, []int{1, 1}},
		{zeros, 6, []int{0, 0, 0, 0, 0}},
		{falling, 6, []int{6, 0, 6, 0, 0}},
		{five, 6, []int{0, 5, 0, 5, 2}},
	} {
		if got, e := recipe.Whole(x.p, x.most); !slices.Equal(got, x.want) || e != api.OK {
			t.Errorf("%s: Whole up to %d: %v, %v, want %v", programText(x.p), x.most, got, e, x.want)
		}
	}
}

func TestP6_4_WholeErrors(t *testing.T) {
	check := func(what string, p recipe.Program, most int, want api.Errno) {
		t.Helper()
		if x, e := recipe.Whole(p, most); len(x) != 0 || e != want {
			t.Errorf("%s: Whole up to %d: %v, %v, want %v", what, most, x, e, want)
		}
	}
	bad := badPrograms()
	for _, what := range sorted(bad) {
		for _, most := range []int{-1, 0, 6, 7} {
			check(what, bad[what], most, api.ErrArg)
		}
	}
	for n := 1; n <= 8; n++ {
		ones := strings.Repeat("1 ", n)
		p, none := program(ones, "2", ones), program(ones, "-1", ones)
		for _, most := range []int{-1, 7, math.MinInt, math.MaxInt} {
			check("a limit", p, most, api.ErrArg)
		}
		if n > 5 {
			check("many columns", p, 0, api.ErrSize)
			check("many columns", p, 6, api.ErrSize)
			check("many columns", none, 6, api.ErrSize)
		} else {
			check("no mixture", none, 6, api.ErrNone)
			check("no mixture", p, 0, api.ErrNone)
			check("none so low", program(ones, "31", ones), 6, api.ErrNone)
			check("a half", program(ones, "1/2", ones), 6, api.ErrNone)
		}
	}
}
