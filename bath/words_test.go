package bath_test

import (
	"math"
	"math/rand"
	"slices"
	"strings"
	"testing"

	"canting/api"
	"canting/bath"
)

func TestP5_1_Covers(t *testing.T) {
	check := func(s string, l []string) {
		if got, e := bath.Covers(s, l); e != api.OK || got != coversAll(s, l) {
			t.Errorf("Covers(%q, %q): %v, %v, want %v", s, l, got, e, coversAll(s, l))
		}
	}
	r := rand.New(rand.NewSource(61))
	for _, l := range smallWords() {
		shortest := must(bath.Shortest(l))
		check("", l)
		check(shortest, l)
		check(strings.Join(l, ""), l)
		for i := range shortest {
			check(shortest[:i]+shortest[i+1:], l)
			check(shortest[i:]+shortest[:i], l)
		}
		for range 10 {
			check(randomText(r, 1+r.Intn(8), r.Intn(18)), l)
		}
		for _, w := range l {
			check(w, l)
		}
	}
	check(strings.Repeat("abcde", 8), []string{"aaaaaaaa", "eeeeeeee", "", "edcbabcd"})
	check(strings.Repeat("h", 40), []string{"hhhhhhhh"})
	check(strings.Repeat("h", 7), []string{"hhhhhhhh"})
}

func TestP5_1_CoversErrors(t *testing.T) {
	bad := []string{"i", "`", "A", "0", " ", "ab c", "\x00", "\xff", "aä", "abi", "iab", strings.Repeat("a", 41), strings.Repeat("ab", 50000), strings.Repeat("a", 40) + "i"}
	for _, s := range bad {
		if got, e := bath.Covers(s, []string{"a"}); got || e != api.ErrArg {
			t.Errorf("Covers(%q): %v, %v", s, got, e)
		}
	}
	words := badWords()
	for _, what := range sorted(words) {
		for _, s := range []string{"", "abc", "i"} {
			if got, e := bath.Covers(s, words[what]); got || e != api.ErrArg {
				t.Errorf("Covers(%q), %s: %v, %v", s, what, got, e)
			}
		}
	}
}

func TestP5_1_ShortestAndCount(t *testing.T) {
	for _, l := range wordLists() {
		first, count := search(l)
		if s, e := bath.Shortest(l); s != first || e != api.OK {
			t.Errorf("Shortest(%q): %q, %v, want %q", l, s, e, first)
		}
		if n, e := bath.Count(l); n != count || e != api.OK {
			t.Errorf("Count(%q): %d, %v, want %d", l, n, e, count)
		}
	}
	const most = 99561092450391000 // 32! / 8!^4: of words without a letter in common
	if n := must(bath.Count([]string{"aaaaaaaa", "bbbbbbbb", "cccccccc", "dddddddd"})); n != most {
		t.Errorf("Count of four words without a letter in common: %d", n)
	}
}

// covering returns all shortest strings of the letters a to c that cover all words, in order.
func covering(l []string) []string {
	for all := []string{""}; ; {
		var found, longer []string
		for _, s := range all {
			if coversAll(s, l) {
				found = append(found, s)
			}
			longer = append(longer, s+"a", s+"b", s+"c")
		}
		if found != nil {
			return found
		}
		all = longer
	}
}

func TestP5_1_AllStrings(t *testing.T) {
	lists := [][]string{{""}, {"cab"}, {"abc", "acb"}, {"ab", "ba", "cc"}, {"aba", "bab", "cbc"}, {"a", "b", "c", "bab"}}
	r := rand.New(rand.NewSource(62))
	for n := range 60 {
		lists = append(lists, randomWords(r, 1+n%4, 1+n%3, 5-n%4))
	}
	for _, l := range lists {
		if len(must(bath.Shortest(l))) > 8 {
			continue
		}
		want := covering(l)
		if s, n := must(bath.Shortest(l)), must(bath.Count(l)); s != want[0] || n != len(want) {
			t.Errorf("%q: %q, the first of %d, want %q, the first of %d", l, s, n, want[0], len(want))
		}
	}
}

func TestP5_2_Table(t *testing.T) {
	for _, l := range smallWords() {
		var want []int
		for _, left := range positions(l) {
			s, _ := search(left)
			want = append(want, len(s))
		}
		if got, e := bath.Table(l); e != api.OK || !slices.Equal(got, want) {
			t.Errorf("Table(%q): %v, %v, want %v", l, got, e, want)
		}
	}
	// The numbers of positions count the first word fastest.
	if got := must(bath.Table([]string{"a", "bb"})); !slices.Equal(got, []int{3, 2, 2, 1, 1, 0}) {
		t.Errorf("Table of a, bb: %v", got)
	}
}

func TestP5_2_TableOfLarge(t *testing.T) {
	r := rand.New(rand.NewSource(63))
	for _, l := range wordLists() {
		table, all := must(bath.Table(l)), positions(l)
		if len(table) != len(all) {
			t.Fatalf("Table(%q) has %d elements, want %d", l, len(table), len(all))
		}
		for range 5 {
			i := r.Intn(len(all))
			if s, _ := search(all[i]); len(s) != table[i] {
				t.Errorf("Table(%q) at %d: %d, want the length of %q", l, i, table[i], s)
			}
		}
	}
}

// changed returns some tables that differ from one in some elements.
func changed(r *rand.Rand, table []int) [][]int {
	tables := [][]int{table, make([]int, len(table))}
	for _, change := range []int{-1 << 40, -2, -1, 1, 2} {
		at := r.Intn(len(table))
		one, last := slices.Clone(table), slices.Clone(table)
		one[at] = max(one[at]+change, -1<<40)
		last[len(last)-1] = change
		tables = append(tables, one, last)
	}
	lower, higher, other := slices.Clone(table), slices.Clone(table), slices.Clone(table)
	for i := range table {
		lower[i] -= 5
		higher[i]++
		other[i] = r.Intn(table[i]+2) - 1
	}
	return append(tables, lower, higher, other, slices.Repeat([]int{1 << 40}, len(table)), slices.Repeat([]int{-1 << 40}, len(table)))
}

func TestP5_2_Bound(t *testing.T) {
	r := rand.New(rand.NewSource(64))
	kinds := map[bool]int{}
	for _, l := range smallWords() {
		for _, table := range changed(r, must(bath.Table(l))) {
			want := sound(l, table)
			kinds[want]++
			if n, ok, e := bath.Bound(l, table); n != table[0] || ok != want || e != api.OK {
				t.Errorf("Bound(%q, %v): %d, %v, %v, want %d, %v", l, table, n, ok, e, table[0], want)
			}
		}
	}
	if kinds[true] < 100 || kinds[false] < 100 {
		t.Errorf("not enough tables of each kind: %v", kinds)
	}
}

// TestP5_2_BoundOfEach raises each element of a table that cannot be higher.
func TestP5_2_BoundOfEach(t *testing.T) {
	for _, l := range [][]string{{"abc"}, {"abc", "acb"}, {"ab", "", "ba"}, {"ab", "ba", "aa", "bb"}} {
		table := must(bath.Table(l))
		for i := range table {
			table[i]++
			n, ok, e := bath.Bound(l, table)
			if n != table[0] || ok || e != api.OK {
				t.Errorf("Bound(%q, %v): %d, %v, %v", l, table, n, ok, e)
			}
			table[i]--
		}
	}
}

func TestP5_2_BoundErrors(t *testing.T) {
	const limit = 1 << 40
	check := func(l []string, table []int, want api.Errno) {
		if n, ok, e := bath.Bound(l, table); n != 0 || ok || e != want {
			t.Errorf("Bound(%q, %v): %d, %v, %v, want %v", l, table, n, ok, e, want)
		}
	}
	for _, n := range []int{0, 1, 2, 4, 5, 100000} {
		check([]string{"ab"}, make([]int, n), api.ErrSize)
		check([]string{"ab"}, slices.Repeat([]int{limit + 1}, n), api.ErrSize)
	}
	check([]string{"ab", "c"}, make([]int, 3), api.ErrSize)
	check([]string{""}, nil, api.ErrSize)
	for at := range 3 {
		for _, x := range []int{limit + 1, -limit - 1, math.MaxInt, math.MinInt} {
			table := []int{2, 1, 0}
			table[at] = x
			check([]string{"ab"}, table, api.ErrArg)
		}
	}
	if n, ok, e := bath.Bound([]string{"ab"}, []int{limit, limit, -limit}); n != limit || ok || e != api.OK {
		t.Errorf("at the limits: %d, %v, %v", n, ok, e)
	}
	if n, ok, e := bath.Bound([]string{"ab"}, []int{-limit, -limit, -limit}); n != -limit || !ok || e != api.OK {
		t.Errorf("at the low limit: %d, %v, %v", n, ok, e)
	}
	words := badWords()
	for _, what := range sorted(words) {
		check(words[what], nil, api.ErrArg)
		check(words[what], []int{0}, api.ErrArg)
		check(words[what], []int{1, 0, limit + 1}, api.ErrArg)
	}
}

func TestP5_1_WordErrors(t *testing.T) {
	words := badWords()
	for _, what := range sorted(words) {
		l := words[what]
		if s, e := bath.Shortest(l); s != "" || e != api.ErrArg {
			t.Errorf("Shortest, %s: %q, %v", what, s, e)
		}
		if n, e := bath.Count(l); n != 0 || e != api.ErrArg {
			t.Errorf("Count, %s: %d, %v", what, n, e)
		}
		if x, e := bath.Table(l); len(x) != 0 || e != api.ErrArg {
			t.Errorf("Table, %s: %v, %v", what, x, e)
		}
	}
}

// common returns the first of the longest strings that both words cover, of all that are left of u with letters removed.
func common(u, v string) string {
	best := ""
	for kept := range 1 << len(u) {
		s := ""
		for i := range u {
			if has(kept, i) {
				s += u[i : i+1]
			}
		}
		if covers(v, s) && (len(s) > len(best) || len(s) == len(best) && s < best) {
			best = s
		}
	}
	return best
}

func TestP5_3_Common(t *testing.T) {
	pairs := [][2]string{{"", ""}, {"abc", ""}, {"abc", "acb"}, {"acb", "abc"}, {"abcdefgh", "abcdefgh"}, {"abcdefgh", "hgfedcba"}, {"aaaaaaaa", "bbbbbbbb"}, {"hhhhhhhh", "hh"}, {"abab", "baba"}}
	r := rand.New(rand.NewSource(65))
	for n := range 400 {
		letters := 1 + n%8
		pairs = append(pairs, [2]string{randomText(r, letters, r.Intn(9)), randomText(r, letters, r.Intn(9))})
	}
	for _, p := range pairs {
		for _, swapped := range []bool{false, true} {
			u, v := p[0], p[1]
			if swapped {
				u, v = v, u
			}
			if s, e := bath.Common(u, v); s != common(u, v) || e != api.OK {
				t.Errorf("Common(%q, %q): %q, %v, want %q", u, v, s, e, common(u, v))
			}
		}
	}
}

func TestP5_3_CommonErrors(t *testing.T) {
	words := badWords()
	for _, what := range sorted(words) {
		if len(words[what]) != 1 {
			continue
		}
		bad := words[what][0]
		for _, pair := range [][2]string{{bad, "ab"}, {"ab", bad}, {bad, ""}, {bad, bad}} {
			if s, e := bath.Common(pair[0], pair[1]); s != "" || e != api.ErrArg {
				t.Errorf("Common(%q, %q): %q, %v", pair[0], pair[1], s, e)
			}
		}
	}
}
