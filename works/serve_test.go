package works_test

import (
	"fmt"
	"math/rand"
	"slices"
	"strings"
	"testing"

	"canting/api"
	"canting/bath"
	"canting/dye"
	"canting/mask"
	"canting/works"
)

// parted returns the masks of so many regions that have no cell in common.
func parted(r *rand.Rand, count int) []mask.Mask {
	tables := make([][]bool, count)
	for i := range tables {
		tables[i] = make([]bool, 64)
	}
	rough := 1 + r.Intn(3) // cells in a row that go together
	for p := range 64 {
		if n := (p >> rough * 7919 % 13) + r.Intn(2); n%(count+1) < count {
			tables[n%(count+1)][p] = true
		}
	}
	var l []mask.Mask
	for _, table := range tables {
		l = append(l, must(mask.FromTable(table)))
	}
	return l
}

func someWord(r *rand.Rand, letters string) string {
	var b strings.Builder
	for range r.Intn(9) {
		b.WriteByte(letters[r.Intn(len(letters))])
	}
	return b.String()
}

// someRegions may be served.
func someRegions(r *rand.Rand, letters string) []works.Region {
	var l []works.Region
	for _, m := range parted(r, 1+r.Intn(4)) {
		l = append(l, works.Region{Mask: m, Word: someWord(r, letters)})
	}
	return l
}

func wordList(l []works.Region) []string {
	var words []string
	for _, x := range l {
		words = append(words, x.Word)
	}
	return words
}

// linesOf follows the definition of Serve.
func linesOf(piece string, l []works.Region) []string {
	var lines []string
	at := make([]int, len(l))
	for _, letter := range must(bath.Shortest(wordList(l))) {
		wax := must(mask.Const(6, true))
		for i, x := range l {
			if at[i] < len(x.Word) && rune(x.Word[at[i]]) == letter {
				at[i]++
				wax = must(mask.And(wax, must(mask.Not(x.Mask))))
			}
		}
		lines = append(lines, fmt.Sprint("boil ", piece), fmt.Sprintf("wax %s {%s}", piece, must(mask.Text(wax))), fmt.Sprintf("dye %s %d", piece, letter-'a'))
	}
	return append(lines, "boil "+piece)
}

func TestP10_6_Serve(t *testing.T) {
	r := rand.New(rand.NewSource(1307))
	for range 1000 {
		l := someRegions(r, pick(r, "a", "ab", "abcd", "dcba", "bd"))
		piece := nameOf(r.Intn(4), 1+r.Intn(most))
		got, e := works.Serve(piece, l)
		if want := linesOf(piece, l); !slices.Equal(got, want) || e != api.OK {
			t.Fatalf("%s, %v: %q, %v, want %q", piece, wordList(l), got, e, want)
		}
	}
}

func TestP10_6_Few(t *testing.T) {
	all, none := must(mask.Const(6, true)), must(mask.Const(6, false))
	for _, l := range [][]works.Region{{{all, ""}}, {{none, ""}}, {{all, ""}, {none, ""}, {none, ""}, {none, ""}}} {
		if got, e := works.Serve("0.1", l); !slices.Equal(got, []string{"boil 0.1"}) || e != api.OK {
			t.Errorf("%v: %q, %v", l, got, e)
		}
	}
	got, e := works.Serve("3.7", []works.Region{{all, "d"}})
	if want := []string{"boil 3.7", "wax 3.7 {6 F}", "dye 3.7 3", "boil 3.7"}; !slices.Equal(got, want) || e != api.OK {
		t.Errorf("%q, %v, want %q", got, e, want)
	}
	got, e = works.Serve("3.7", []works.Region{{none, "c"}})
	if want := []string{"boil 3.7", "wax 3.7 {6 T}", "dye 3.7 2", "boil 3.7"}; !slices.Equal(got, want) || e != api.OK {
		t.Errorf("%q, %v, want %q", got, e, want)
	}
}

func TestP10_6_Errors(t *testing.T) {
	left, right := must(mask.Rect(3, 0, 0, 3, 7)), must(mask.Rect(3, 4, 0, 7, 7))
	corner := must(mask.Rect(3, 3, 7, 3, 7))
	good := []works.Region{{left, "ab"}, {right, "b"}}
	for what, l := range map[string][]works.Region{
		"no regions":          nil,
		"five regions":        slices.Repeat([]works.Region{{must(mask.Const(6, false)), "a"}}, 5),
		"very many":           slices.Repeat([]works.Region{{must(mask.Const(6, false)), "a"}}, 100000),
		"no mask":             {{mask.Mask{}, "a"}},
		"no mask, last":       {{left, "a"}, {mask.Mask{}, "a"}},
		"4 variables":         {{must(mask.Const(4, false)), "a"}},
		"8 variables":         {{must(mask.Const(8, false)), "a"}},
		"8 variables, last":   {{left, "a"}, {must(mask.Rect(4, 15, 15, 15, 15)), "a"}},
		"a mask out of order": {{mask.Mask{Vars: 6, Nodes: []mask.Node{{Var: 0, Low: 0, High: 1}, {Var: 1, Low: 0, High: 1}}, Root: 2}, "a"}},
		"a root too high":     {{mask.Mask{Vars: 6, Root: 2}, "a"}},
		"a root too low":      {{mask.Mask{Vars: 6, Root: -1}, "a"}},
		"a cell in common":    {{left, "a"}, {corner, "a"}},
		"the same twice":      {{left, "a"}, {left, "a"}},
		"first and last":      {{left, "a"}, {must(mask.Rect(3, 5, 5, 5, 5)), "a"}, {corner, "b"}},
		"second and last":     {{right, "a"}, {left, "a"}, {must(mask.Rect(3, 6, 6, 6, 6)), "b"}},
		"the letter e":        {{left, "e"}},
		"the letter h":        {{left, "a"}, {right, "abch"}},
		"a digit":             {{left, "0"}},
		"a capital":           {{left, "A"}},
		"a blank":             {{left, "a b"}},
		"a blank behind":      {{left, "ab "}},
		"an e within":         {{left, "aeb"}},
		"another byte":        {{left, "a\xff"}},
		"nine letters":        {{left, "abcdabcda"}},
		"nine letters, last":  {{left, "a"}, {right, "aaaaaaaaa"}},
		"very many letters":   {{left, strings.Repeat("a", 100000)}},
	} {
		if got, e := works.Serve("0.1", l); len(got) > 0 || e != api.ErrArg {
			t.Errorf("%s: %q, %v", what, got, e)
		}
	}
	for _, piece := range []string{"", ".", "0", "0.", ".1", "0.0", "4.1", "-1.1", "0.-1", "00.1", "0.01", "+0.1", "0.+1", "0,1", "0.1.1", "0.1 ", " 0.1", "0 .1", "0.x", "x.1", "0.1099511627777", "0.18446744073709551617", "10.1", "0.1\n", "0.1x", "a", "0.1e1", strings.Repeat("1", 100000)} {
		if got, e := works.Serve(piece, good); len(got) > 0 || e != api.ErrArg {
			t.Errorf("piece %.20q: %q, %v", piece, got, e)
		}
	}
	for _, piece := range []string{"0.1", "3.1", "0.10", "1.999999999", "2.1000000000", "3.1099511627776"} {
		if got, e := works.Serve(piece, good); len(got) != 7 || e != api.OK {
			t.Errorf("piece %q: %q, %v", piece, got, e)
		}
	}
	if got, e := works.Serve("0.1", []works.Region{{left, "abcdabcd"}, {right, "dcbadcba"}}); len(got) < 25 || e != api.OK {
		t.Errorf("words of 8 letters: %q, %v", got, e)
	}
}

// dyed returns the colour that the dyes of a word make of colour 0.
func dyed(o dye.Overlay, word string) int {
	colour := 0
	for _, letter := range word {
		colour = o.Dyes[letter-'a'][colour]
	}
	return colour
}

func TestP10_10_Schedule(t *testing.T) {
	r := rand.New(rand.NewSource(1308))
	for range 150 {
		o := dye.Overlay{Colours: 1 + r.Intn(8), Dyes: make([][]int, 4)}
		for i := range o.Dyes {
			for range o.Colours {
				o.Dyes[i] = append(o.Dyes[i], r.Intn(o.Colours))
			}
		}
		l := someRegions(r, pick(r, "ab", "abc", "abcd"))
		lines := must(works.Serve("2.1", l))
		w := newWorks(2, o)
		doAll(w, "piece")
		doAll(w, lines...)
		for y := range 8 {
			for x := range 8 {
				want := 0
				for _, region := range l {
					if must(mask.At(region.Mask, must(mask.Cell(3, x, y)))) {
						want = dyed(o, region.Word)
					}
				}
				if c, waxed, e := w.Cell("2.1", x, y); c != want || waxed || e != api.OK {
					t.Fatalf("%v, %q: (%d, %d): %d, %v, %v, want %d", o, wordList(l), x, y, c, waxed, e, want)
				}
			}
		}
		dyes := 0
		for _, line := range lines {
			if strings.HasPrefix(line, "dye ") {
				dyes++
			}
		}
		// A sound table proves that no schedule has fewer.
		bound, sound, e := bath.Bound(wordList(l), must(bath.Table(wordList(l))))
		if dyes != bound || !sound || e != api.OK {
			t.Errorf("%q: %d dyes, proven are %d, %v, %v", wordList(l), dyes, bound, sound, e)
		}
	}
}
