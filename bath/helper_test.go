package bath_test

import (
	"fmt"
	"maps"
	"math"
	"math/rand"
	"slices"
	"strings"

	"canting/api"
	"canting/bath"
)

// The tests compare package bath with lists of all strings, orders, tours and trees, with searches that go forward where the package goes backward, and with the definitions of the chapter, and only through the exported functions.

// covers follows the definition: w is s, or is left if one letter of s is kept or removed after another.
func covers(s, w string) bool {
	if s == "" || w == "" {
		return w == ""
	}
	return s[0] == w[0] && covers(s[1:], w[1:]) || covers(s[1:], w)
}

func coversAll(s string, l []string) bool {
	return !slices.ContainsFunc(l, func(w string) bool { return !covers(s, w) })
}

// after returns what a letter leaves of words, and whether it moves one.
func after(l []string, letter string) ([]string, bool) {
	var left []string
	moves := false
	for _, w := range l {
		rest, moved := strings.CutPrefix(w, letter)
		left = append(left, rest)
		moves = moves || moved
	}
	return left, moves
}

// eachLetter are the letters of words, in order.
func eachLetter() []string {
	return strings.Split("abcdefgh", "")
}

// way tells of the strings of one length that leave the same of all words.
type way struct {
	left  []string
	first string
	count int
}

// search returns the first shortest string that covers all words, and how many shortest ones there are: it lengthens strings letter by letter until one covers all.
func search(l []string) (string, int) {
	ways := map[string]way{lengths(l): {l, "", 1}}
	end := lengths(make([]string, len(l)))
	for {
		if w, ok := ways[end]; ok {
			return w.first, w.count
		}
		ways = lengthened(ways)
	}
}

// lengthened returns the ways that are one letter longer, by how much they leave.
func lengthened(ways map[string]way) map[string]way {
	longer := map[string]way{}
	for _, w := range ways {
		for _, letter := range eachLetter() {
			left, moves := after(w.left, letter)
			if !moves {
				continue
			}
			k, s := lengths(left), w.first+letter
			if old, known := longer[k]; known {
				longer[k] = way{left, min(old.first, s), old.count + w.count}
			} else {
				longer[k] = way{left, s, w.count}
			}
		}
	}
	return longer
}

// positions returns what is left of words at each position, by its number.
func positions(l []string) [][]string {
	all := [][]string{{}}
	for _, w := range l {
		var more [][]string
		for at := range len(w) + 1 {
			for _, left := range all {
				more = append(more, append(slices.Clone(left), w[at:]))
			}
		}
		all = more
	}
	return all
}

// sound follows the definition of a sound table.
func sound(l []string, t []int) bool {
	all := positions(l)
	number := map[string]int{}
	for i, left := range all {
		number[lengths(left)] = i
	}
	for i, left := range all {
		for _, letter := range eachLetter() {
			if to, moves := after(left, letter); moves && t[i] > 1+t[number[lengths(to)]] {
				return false
			}
		}
	}
	return t[len(t)-1] <= 0
}

// lengths is a text of a position: how much of each word is left.
func lengths(left []string) string {
	var l []int
	for _, w := range left {
		l = append(l, len(w))
	}
	return fmt.Sprint(l)
}

func randomText(r *rand.Rand, letters, length int) string {
	var b strings.Builder
	for range length {
		b.WriteByte("abcdefgh"[r.Intn(letters)])
	}
	return b.String()
}

// randomWords returns words of at most so many letters.
func randomWords(r *rand.Rand, words, letters, length int) []string {
	var l []string
	for range words {
		l = append(l, randomText(r, letters, r.Intn(length+1)))
	}
	return l
}

// smallWords are words with so few positions that all of these can be searched.
func smallWords() [][]string {
	l := [][]string{
		{""},
		{"", ""},
		{"", "", "", ""},
		{"a"},
		{"h"},
		{"ab"},
		{"abcdefgh"},
		{"hgfedcba"},
		{"aaaaaaaa"},
		{"", "abc", ""},
		{"abc", "abc"},
		{"abc", "ab", "a", ""},
		{"abc", "acb"},
		{"acb", "abc"},
		{"a", "b", "c", "d"},
		{"d", "c", "b", "a"},
		{"ab", "ba"},
		{"ab", "ba", "ab"},
		{"abab", "baba"},
		{"aab", "aba", "baa"},
		{"ha", "ah", "hh", "aa"},
		{"abcd", "bcda", "cdab", "dabc"},
	}
	r := rand.New(rand.NewSource(51))
	for n := range 150 {
		l = append(l, randomWords(r, 1+n%4, 1+r.Intn(8), 6-n%4))
	}
	return l
}

// wordLists are the small ones and larger ones.
func wordLists() [][]string {
	l := append(smallWords(),
		[]string{"aaaaaaaa", "bbbbbbbb"},
		[]string{"abcdefgh", "hgfedcba"},
		[]string{"abababab", "babababa", "aabbaabb"},
		[]string{"abcdefgh", "abcdefgh", "abcdefgh", "abcdefgh"},
		[]string{"aaaaaaaa", "bbbbbbbb", "cccccccc", "dddddddd"},
		[]string{"abcdefgh", "hgfedcba", "badcfehg", "efghabcd"},
	)
	r := rand.New(rand.NewSource(52))
	for n := range 24 {
		l = append(l, randomWords(r, 1+n%4, 1+r.Intn(8), 8))
	}
	for letters := 1; letters <= 8; letters++ {
		l = append(l, []string{randomText(r, letters, 8), randomText(r, letters, 8), randomText(r, letters, 8), randomText(r, letters, 8)})
	}
	return l
}

// badWords are no words, by what is wrong with them.
func badWords() map[string][]string {
	l := map[string][]string{
		"no word":         {},
		"nil":             nil,
		"5 words":         {"a", "b", "c", "d", "e"},
		"5 empty words":   make([]string, 5),
		"very many words": make([]string, 100000),
	}
	for what, w := range map[string]string{
		"9 letters":         "abcdefgha",
		"very many letters": strings.Repeat("a", 100000),
		"the letter i":      "i",
		"a later i":         "abci",
		"an i within":       "aia",
		"a byte before a":   "a`a",
		"a large letter":    "aB",
		"a digit":           "0",
		"a space":           "a b",
		"a zero byte":       "a\x00",
		"another byte":      "\xff",
		"a rune":            "aäa",
	} {
		l[what] = []string{w}
		l[what+", first"] = []string{w, "a", "b"}
		l[what+", last"] = []string{"", "a", "b", w}
	}
	return l
}

// isOrder follows the definition of an order.
func isOrder(p bath.Plan, order []int) bool {
	sorted := slices.Sorted(slices.Values(order))
	if len(order) != len(p.Start) || sorted[0] != 0 || sorted[len(sorted)-1] != len(order)-1 || len(slices.Compact(sorted)) != len(order) {
		return false
	}
	for _, pair := range p.Before {
		if slices.Index(order, pair[0]) > slices.Index(order, pair[1]) {
			return false
		}
	}
	return true
}

// costOf follows the definition of the cost of an order.
func costOf(p bath.Plan, order []int) int {
	cost := p.Start[order[0]]
	for k, i := range order[1:] {
		cost += p.Change[order[k]][i]
	}
	return cost
}

// permutations calls do with all slices that begin with a slice and go on with the ints below n that are not in it, in order.
func permutations(n int, front []int, do func(l []int)) {
	if len(front) == n {
		do(front)
		return
	}
	for i := range n {
		if !slices.Contains(front, i) {
			permutations(n, append(slices.Clone(front), i), do)
		}
	}
}

// orders returns all orders of a plan, in order.
func orders(p bath.Plan) [][]int {
	var out [][]int
	permutations(len(p.Start), nil, func(l []int) {
		if isOrder(p, l) {
			out = append(out, l)
		}
	})
	return out
}

// cheapest returns the first of the cheapest orders, if there is one.
func cheapest(p bath.Plan) ([]int, bool) {
	var best []int
	for _, order := range orders(p) {
		if best == nil || costOf(p, order) < costOf(p, best) {
			best = order
		}
	}
	return best, best != nil
}

// has reports whether a bath is in a set.
func has(set, bath int) bool {
	return set/(1<<bath)%2 == 1
}

// follows reports whether a bath can follow a set.
func follows(p bath.Plan, set, next int) bool {
	for _, pair := range p.Before {
		if pair[1] == next && !has(set, pair[0]) {
			return false
		}
	}
	return !has(set, next)
}

// toPay returns the least cost over all ways to add the baths that are not in a set, and false if there is no way.
func toPay(p bath.Plan, set, last int) (int, bool) {
	least, found := 0, false
	full := true
	for next := range p.Start {
		full = full && has(set, next)
		if !follows(p, set, next) {
			continue
		}
		rest, ok := toPay(p, set+1<<next, next)
		if cost := p.Change[last][next] + rest; ok && (!found || cost < least) {
			least, found = cost, true
		}
	}
	return least, found || full
}

// soundPrices follows the definition of a sound price table.
func soundPrices(p bath.Plan, t []int) bool {
	n := len(p.Start)
	for set := range 1 << n {
		for i := range n {
			if !has(set, i) {
				continue
			}
			if set == 1<<n-1 && t[n*set+i] > 0 {
				return false
			}
			for j := range n {
				if follows(p, set, j) && t[n*set+i] > p.Change[i][j]+t[n*(set+1<<j)+j] {
					return false
				}
			}
		}
	}
	return true
}

// randomCosts returns rows of costs up to a limit.
func randomCosts(r *rand.Rand, rows, columns, most int) [][]int {
	var out [][]int
	for range rows {
		var row []int
		for range columns {
			row = append(row, r.Intn(most+1))
		}
		out = append(out, row)
	}
	return out
}

// randomPlan returns a plan of n baths with costs up to a limit. Its pairs agree with a random order, but for some that are turned.
func randomPlan(r *rand.Rand, n, most, pairs, turned int) bath.Plan {
	p := bath.Plan{Start: randomCosts(r, 1, n, most)[0], Change: randomCosts(r, n, n, most)}
	order := r.Perm(n)
	for k := range pairs {
		if n < 2 {
			break
		}
		j := 1 + r.Intn(n-1)
		pair := [2]int{order[r.Intn(j)], order[j]}
		if k < turned {
			pair[0], pair[1] = pair[1], pair[0]
		}
		p.Before = append(p.Before, pair)
	}
	return p
}

// smallPlans are plans with so few baths that all orders can be listed.
func smallPlans() []bath.Plan {
	two := bath.Plan{Start: []int{1, 2}, Change: [][]int{{0, 5}, {1, 0}}}
	l := []bath.Plan{
		{Start: []int{0}, Change: [][]int{{0}}},
		{Start: []int{1000}, Change: [][]int{{1000}}},
		{Start: []int{7}, Change: [][]int{{3}}},
		two,
		{Start: two.Start, Change: two.Change, Before: [][2]int{{0, 1}}},
		{Start: two.Start, Change: two.Change, Before: [][2]int{{1, 0}}},
		{Start: two.Start, Change: two.Change, Before: slices.Repeat([][2]int{{0, 1}}, 40)},
		{Start: two.Start, Change: two.Change, Before: [][2]int{{0, 1}, {1, 0}}},
		{Start: []int{0, 0, 0}, Change: [][]int{{0, 0, 0}, {0, 0, 0}, {0, 0, 0}}, Before: [][2]int{{0, 1}, {1, 2}, {2, 0}}},
		{Start: []int{0, 0, 0}, Change: [][]int{{0, 0, 0}, {0, 0, 0}, {0, 0, 0}}, Before: [][2]int{{2, 1}, {1, 0}}},
		{Start: []int{0, 0, 0, 0}, Change: [][]int{{9, 1, 1, 1}, {1, 9, 1, 1}, {1, 1, 9, 1}, {1, 1, 1, 9}}},
	}
	r := rand.New(rand.NewSource(53))
	for n := range 240 {
		pairs := r.Intn(6)
		l = append(l, randomPlan(r, 1+n%6, []int{1, 2, 10, 1000}[r.Intn(4)], pairs, r.Intn(pairs+1)*(n%2)))
	}
	return l
}

// plans are the small ones and larger ones.
func plans() []bath.Plan {
	l := smallPlans()
	r := rand.New(rand.NewSource(54))
	for n := 7; n <= 10; n++ {
		for _, most := range []int{0, 1, 30, 1000} {
			l = append(l, randomPlan(r, n, most, 0, 0), randomPlan(r, n, most, n, 0), randomPlan(r, n, most, 40, 0), randomPlan(r, n, most, n, n/2))
		}
	}
	return l
}

// badPlans are no plans, by what is wrong with them.
func badPlans() map[string]bath.Plan {
	l := map[string]bath.Plan{
		"nothing":                {},
		"no baths":               {Start: []int{}, Change: [][]int{}},
		"11 baths":               {Start: make([]int, 11), Change: rows(11, 11)},
		"very many baths":        {Start: make([]int, 100000), Change: rows(1, 1)},
		"a bath without changes": {Start: []int{0}},
		"changes without baths":  {Change: rows(1, 1)},
		"a row less":             {Start: make([]int, 3), Change: rows(2, 3)},
		"a row more":             {Start: make([]int, 3), Change: rows(4, 3)},
		"very many rows":         {Start: make([]int, 3), Change: make([][]int, 100000)},
		"a column less":          {Start: make([]int, 3), Change: rows(3, 2)},
		"a column more":          {Start: make([]int, 3), Change: rows(3, 4)},
		"41 pairs":               {Start: make([]int, 2), Change: rows(2, 2), Before: slices.Repeat([][2]int{{0, 1}}, 41)},
		"very many pairs":        {Start: make([]int, 2), Change: rows(2, 2), Before: slices.Repeat([][2]int{{0, 1}}, 100000)},
	}
	last := bath.Plan{Start: make([]int, 3), Change: rows(3, 3)}
	last.Change[2] = last.Change[2][:2]
	l["a last row of another length"] = last
	for _, x := range []int{-1, 1001, math.MinInt, math.MaxInt} {
		for at := range 3 {
			p := bath.Plan{Start: make([]int, 3), Change: rows(3, 3)}
			p.Start[at] = x
			l[fmt.Sprintf("%d at the start %d", x, at)] = p
		}
		for at := range 9 {
			p := bath.Plan{Start: make([]int, 3), Change: rows(3, 3)}
			p.Change[at/3][at%3] = x
			l[fmt.Sprintf("%d at the change %d", x, at)] = p
		}
	}
	for _, pair := range [][2]int{{0, 0}, {2, 2}, {-1, 0}, {0, -1}, {3, 0}, {0, 3}, {64, 1}, {1, math.MaxInt}, {math.MinInt, 1}} {
		l[fmt.Sprintf("the pair %v", pair)] = bath.Plan{Start: make([]int, 3), Change: rows(3, 3), Before: [][2]int{pair}}
		l[fmt.Sprintf("the last pair %v", pair)] = bath.Plan{Start: make([]int, 3), Change: rows(3, 3), Before: [][2]int{{0, 1}, {1, 0}, pair}}
	}
	return l
}

// rows returns rows of zeros.
func rows(n, columns int) [][]int {
	return randomCosts(rand.New(rand.NewSource(0)), n, columns, 0)
}

// randomDistances returns a distance matrix of n nodes with distances up to a limit.
func randomDistances(r *rand.Rand, n, most int) [][]int {
	d := randomCosts(r, n, n, most)
	for i := range d {
		for j := range i {
			d[i][j] = d[j][i]
		}
		d[i][i] = 0
	}
	return d
}

// distances are distance matrices.
func distances() [][][]int {
	l := [][][]int{{{0, 1, 2}, {1, 0, 3}, {2, 3, 0}}}
	r := rand.New(rand.NewSource(55))
	for n := 3; n <= 9; n++ {
		for _, most := range []int{0, 1, 2, 20, 1000} {
			l = append(l, randomDistances(r, n, most))
		}
	}
	for n := range 60 {
		l = append(l, randomDistances(r, 3+n%5, []int{1, 3, 1000}[n%3]))
	}
	return l
}

// badDistances are no distance matrices, by what is wrong with them.
func badDistances() map[string][][]int {
	l := map[string][][]int{
		"nothing":             nil,
		"1 node":              rows(1, 1),
		"2 nodes":             rows(2, 2),
		"10 nodes":            rows(10, 10),
		"very many nodes":     make([][]int, 100000),
		"empty rows":          make([][]int, 3),
		"a column less":       rows(4, 3),
		"a column more":       rows(3, 4),
		"a row with a less":   {{0, 1, 2}, {1, 0, 3}, {2, 3}},
		"a row with a more":   {{0, 1, 2, 3}, {1, 0, 3}, {2, 3, 0}},
		"another opposite":    {{0, 1, 2}, {1, 0, 3}, {2, 4, 0}},
		"another first":       {{0, 1, 2}, {0, 0, 3}, {2, 3, 0}},
		"a way to itself":     {{0, 1, 2}, {1, 0, 3}, {2, 3, 1}},
		"a first to itself":   {{1, 1, 2}, {1, 0, 3}, {2, 3, 0}},
		"all the same":        {{5, 5, 5}, {5, 5, 5}, {5, 5, 5}},
		"-1 in the diagonal":  {{0, 1, 2}, {1, -1, 3}, {2, 3, 0}},
		"a distance of -1":    {{0, 1, 2}, {1, 0, -1}, {2, -1, 0}},
		"a distance of 1001":  {{0, 1, 1001}, {1, 0, 3}, {1001, 3, 0}},
		"a very far distance": {{0, 1, math.MaxInt}, {1, 0, 3}, {math.MaxInt, 3, 0}},
		"a very low distance": {{0, math.MinInt, 2}, {math.MinInt, 0, 3}, {2, 3, 0}},
	}
	return l
}

// sorted returns the keys of a map, in order.
func sorted[T any](m map[string]T) []string {
	return slices.Sorted(maps.Keys(m))
}

// must returns the result of a call that has to succeed.
func must[T any](x T, e api.Errno) T {
	if e != api.OK {
		panic(e)
	}
	return x
}
