package bath_test

import (
	"fmt"
	"math/rand"
	"slices"
	"strings"
	"testing"

	"canting/api"
	"canting/bath"
)

// TestP5_Examples checks the examples of the chapter.
func TestP5_Examples(t *testing.T) {
	check := func(want string, results ...any) {
		t.Helper()
		if got := strings.TrimSpace(fmt.Sprintln(results...)); got != want {
			t.Errorf("%s, want %s", got, want)
		}
	}
	l := []string{"abc", "acb"}
	check("abcb 2 ab", must(bath.Shortest(l)), must(bath.Count(l)), must(bath.Common(l[0], l[1])))
	check("[2 1 0]", must(bath.Table([]string{"ab"})))
	n, ok, e := bath.Bound([]string{"ab"}, []int{2, 2, 0})
	check("2 false 0", n, ok, e)
	p := bath.Plan{Start: []int{1, 2}, Change: [][]int{{0, 5}, {1, 0}}}
	check("6 3 [1 0]", must(bath.Cost(p, []int{0, 1})), must(bath.Cost(p, []int{1, 0})), must(bath.Best(p)))
	p.Before = [][2]int{{0, 1}}
	check("[0 1] [-1 -1 5 -1 -1 1 0 0]", must(bath.Best(p)), must(bath.Prices(p)))
	n, ok, e = bath.Check(p, must(bath.Prices(p)))
	check("6 true 0", n, ok, e)
	d := [][]int{{0, 1, 2}, {1, 0, 3}, {2, 3, 0}}
	check("[0 1 2] 6", must(bath.Tour(d)), must(bath.Tree(d, []int{0, 0, 0})))
}

// lowered returns tables that are lower than one, in the same measure everywhere or at random.
func lowered(r *rand.Rand, table []int) [][]int {
	var out [][]int
	for range 4 {
		even, uneven := slices.Clone(table), slices.Clone(table)
		by := r.Intn(10)
		for i := range table {
			even[i] -= by
			uneven[i] -= r.Intn(2)
		}
		out = append(out, even, uneven, slices.Repeat([]int{-by}, len(table)))
	}
	return out
}

func TestP5_7_Supersequences(t *testing.T) {
	r := rand.New(rand.NewSource(91))
	for _, l := range wordLists() {
		s, table := must(bath.Shortest(l)), must(bath.Table(l))
		if !must(bath.Covers(s, l)) {
			t.Errorf("Shortest(%q) is %q, which does not cover all", l, s)
		}
		if n, ok, e := bath.Bound(l, table); n != len(s) || !ok || e != api.OK {
			t.Errorf("Bound of Table(%q): %d, %v, %v, want %d", l, n, ok, e, len(s))
		}
		for _, x := range lowered(r, table) {
			if n, ok, e := bath.Bound(l, x); e != api.OK || ok && n > len(s) {
				t.Errorf("%q: a sound table proves %d, %v, of %q", l, n, e, s)
			}
		}
	}
}

func TestP5_8_DualityOfTwo(t *testing.T) {
	r := rand.New(rand.NewSource(92))
	for n := range 500 {
		u, v := randomText(r, 1+n%8, r.Intn(9)), randomText(r, 1+n%8, r.Intn(9))
		s, x := must(bath.Shortest([]string{u, v})), must(bath.Common(u, v))
		if len(s) != len(u)+len(v)-len(x) {
			t.Errorf("of %q, %q: Shortest %q, Common %q", u, v, s, x)
		}
		for _, w := range []string{u, v} {
			if !must(bath.Covers(w, []string{x})) {
				t.Errorf("%q does not cover Common(%q, %q): %q", w, u, v, x)
			}
		}
	}
}

func TestP5_9_Orders(t *testing.T) {
	r := rand.New(rand.NewSource(93))
	for _, p := range plans() {
		best, e := bath.Best(p)
		if e != api.OK {
			continue
		}
		cost, table := must(bath.Cost(p, best)), must(bath.Prices(p))
		if n, ok, e := bath.Check(p, table); n != cost || !ok || e != api.OK {
			t.Errorf("Check of Prices(%v): %d, %v, %v, want %d", p, n, ok, e, cost)
		}
		for _, x := range lowered(r, table) {
			if n, ok, e := bath.Check(p, x); e != api.OK || ok && n > cost {
				t.Errorf("%v: a sound table proves %d, %v, of %v, which costs %d", p, n, e, best, cost)
			}
		}
		for range 10 {
			if other, e := bath.Cost(p, r.Perm(len(p.Start))); e == api.OK && other < cost {
				t.Errorf("an order of %v costs %d, Best %d", p, other, cost)
			}
		}
	}
}

func TestP5_10_OneTrees(t *testing.T) {
	r := rand.New(rand.NewSource(94))
	reached := 0
	for _, d := range distances() {
		length := tourLength(d, must(bath.Tour(d)))
		for _, most := range []int{0, 1, 10, 100, 1000, 9000} {
			pi := randomPi(r, len(d), most)
			bound := must(bath.Tree(d, pi))
			if bound > length {
				t.Errorf("Tree(%v, %v): %d, above the length of Tour, %d", d, pi, bound, length)
			}
			if bound == length {
				reached++
			}
			more := r.Intn(2001) - 1000
			for i := range pi {
				pi[i] += more
			}
			if again := must(bath.Tree(d, pi)); again != bound {
				t.Errorf("Tree(%v, %v): %d, with %d less everywhere %d", d, pi, again, more, bound)
			}
		}
	}
	if reached == 0 {
		t.Error("no tree has the length of a tour")
	}
}

func TestP5_11_More(t *testing.T) {
	r := rand.New(rand.NewSource(95))
	for _, l := range wordLists() {
		for n := 1; n < len(l); n++ {
			if fewer, more := must(bath.Shortest(l[:n])), must(bath.Shortest(l[:n+1])); len(more) < len(fewer) {
				t.Errorf("Shortest(%q): %q, with one word less %q", l[:n+1], more, fewer)
			}
		}
	}
	for _, p := range plans() {
		best, e := bath.Best(p)
		if n := len(p.Start); e == api.OK && n > 1 && len(p.Before) < 40 {
			i := r.Intn(n)
			q := p
			q.Before = append(slices.Clone(p.Before), [2]int{i, (i + 1 + r.Intn(n-1)) % n})
			if other, e := bath.Best(q); e == api.OK && costOf(q, other) < costOf(p, best) {
				t.Errorf("Best(%v): %v, with one pair less %v", q, other, best)
			}
		}
	}
}
