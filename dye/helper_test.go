package dye_test

import (
	"cmp"
	"fmt"
	"math"
	"math/rand"
	"slices"
	"strings"

	"canting/api"
	"canting/dye"
)

// The tests compare package dye with cells that have a colour and are waxed or not, with lists of all strings and with the definitions of the chapter, and only through the exported functions.

// cell is a cell of cloth.
type cell struct {
	colour int
	waxed  bool
}

func (c *cell) do(o dye.Overlay, letter byte) {
	switch letter {
	case 'w':
		c.waxed = true
	case 'b':
		c.waxed = false
	default:
		if !c.waxed {
			c.colour = o.Dyes[letter-'0'][c.colour]
		}
	}
}

// actOf returns the action of a string of steps.
func actOf(o dye.Overlay, w string) []int {
	var act []int
	for colour := range o.Colours {
		for _, waxed := range []bool{false, true} {
			c := cell{colour, waxed}
			for i := range len(w) {
				c.do(o, w[i])
			}
			state := 2 * c.colour
			if c.waxed {
				state++
			}
			act = append(act, state)
		}
	}
	return act
}

// key is a text of an action.
func key(act []int) string {
	return fmt.Sprint(act)
}

func keyOf(o dye.Overlay, w string) string {
	return key(actOf(o, w))
}

// stepsOf returns the steps of an overlay, in order.
func stepsOf(o dye.Overlay) []string {
	return append([]string{"0", "1", "2", "3"}[:len(o.Dyes):len(o.Dyes)], "b", "w")
}

// longer returns all strings with one more step, in order if the strings are in order and of one length.
func longer(o dye.Overlay, l []string) []string {
	var out []string
	for _, w := range l {
		for _, s := range stepsOf(o) {
			out = append(out, w+s)
		}
	}
	return out
}

// shortlex compares two strings.
func shortlex(u, v string) int {
	return cmp.Or(cmp.Compare(len(u), len(v)), strings.Compare(u, v))
}

// firsts returns the normal forms by their actions, of all strings up to the first length of which there are no new ones. These strings are returned too.
func firsts(o dye.Overlay) (map[string]string, []string) {
	forms := map[string]string{keyOf(o, ""): ""}
	all := []string{""}
	for l, more := all, true; more; {
		l = longer(o, l)
		all = append(all, l...)
		more = false
		for _, w := range l {
			if _, known := forms[keyOf(o, w)]; !known {
				forms[keyOf(o, w)] = w
				more = true
			}
		}
	}
	return forms, all
}

// inOrder returns the normal forms in order.
func inOrder(forms map[string]string) []string {
	var l []string
	for _, w := range forms {
		l = append(l, w)
	}
	slices.SortFunc(l, shortlex)
	return l
}

// tiny are overlays with so few normal forms, and these so short, that all strings can be listed.
func tiny() []dye.Overlay {
	return []dye.Overlay{
		{Colours: 1},
		{Colours: 2},
		{Colours: 8},
		{Colours: 1, Dyes: [][]int{{0}}},
		{Colours: 1, Dyes: [][]int{{0}, {0}, {0}, {0}}},
		{Colours: 2, Dyes: [][]int{{1, 1}}},
		{Colours: 2, Dyes: [][]int{{0, 1}, {1, 1}}},
		{Colours: 2, Dyes: [][]int{{1, 1}, {0, 1}, {1, 1}}},
		{Colours: 2, Dyes: [][]int{{1, 0}}},
		{Colours: 2, Dyes: [][]int{{0, 0}, {1, 1}}},
		{Colours: 2, Dyes: [][]int{{0, 0}, {1, 0}}},
		{Colours: 3, Dyes: [][]int{{1, 1, 2}, {2, 2, 2}}},
		{Colours: 3, Dyes: [][]int{{1, 2, 0}}},
		{Colours: 3, Dyes: [][]int{{1, 1, 2}, {0, 2, 2}}},
		{Colours: 4, Dyes: [][]int{{0, 0, 2, 2}, {0, 1, 0, 1}, {3, 3, 3, 3}}},
		{Colours: 8, Dyes: [][]int{{1, 0, 3, 2, 5, 4, 7, 6}, {0, 0, 2, 2, 4, 4, 6, 6}}},
	}
}

// overlays are the tiny ones, others by hand and random ones that have a few hundred normal forms at most.
func overlays() []dye.Overlay {
	l := append(tiny(),
		dye.Overlay{Colours: 5, Dyes: [][]int{{1, 2, 3, 4, 0}}},
		dye.Overlay{Colours: 8, Dyes: [][]int{{1, 2, 3, 4, 5, 6, 7, 7}}},
		dye.Overlay{Colours: 8, Dyes: [][]int{{1, 2, 0, 4, 5, 6, 7, 3}}},
		dye.Overlay{Colours: 3, Dyes: [][]int{{0, 1, 0}, {2, 1, 1}}},
		dye.Overlay{Colours: 5, Dyes: [][]int{{1, 1, 2, 4, 4}, {0, 0, 2, 0, 4}}},
		dye.Overlay{Colours: 3, Dyes: [][]int{{1, 0, 2}, {0, 2, 1}}},
		dye.Overlay{Colours: 3, Dyes: [][]int{{1, 0, 2}, {0, 0, 2}}},
		dye.Overlay{Colours: 4, Dyes: [][]int{{0, 0, 2, 2}, {0, 1, 0, 1}, {3, 3, 3, 3}, {0, 1, 2, 3}}},
	)
	r := rand.New(rand.NewSource(41))
	for len(l) < 60 {
		o := randomOverlay(r, 1+r.Intn(8), r.Intn(5))
		if forms, e := dye.Elements(o); e == api.OK && len(forms) <= 250 {
			l = append(l, o)
		}
	}
	return l
}

// large are overlays with too many actions.
func large() []dye.Overlay {
	return []dye.Overlay{
		{Colours: 8, Dyes: [][]int{{1, 2, 3, 4, 5, 6, 7, 0}, {1, 0, 2, 3, 4, 5, 6, 7}, {0, 0, 2, 3, 4, 5, 6, 7}}},
		{Colours: 8, Dyes: [][]int{{1, 2, 3, 4, 5, 6, 7, 0}, {1, 0, 2, 3, 4, 5, 6, 7}}},
		{Colours: 4, Dyes: [][]int{{1, 2, 3, 0}, {1, 0, 2, 3}, {0, 0, 2, 3}, {3, 2, 1, 0}}},
		{Colours: 8, Dyes: [][]int{{2, 2, 6, 0, 4, 1, 2, 0}, {2, 2, 7, 2, 2, 7, 7, 1}}}, // 2001 actions
		{Colours: 8, Dyes: [][]int{{1, 2, 5, 7, 3, 2, 0, 3}, {5, 5, 2, 2, 0, 1, 4, 7}}}, // 2001 actions
	}
}

// full are overlays with as many actions as there may be.
func full() []dye.Overlay {
	return []dye.Overlay{
		{Colours: 8, Dyes: [][]int{{1, 7, 7, 2, 7, 0, 7, 4}, {0, 5, 6, 2, 4, 5, 5, 7}}},
		{Colours: 8, Dyes: [][]int{{3, 4, 6, 5, 6, 6, 5, 1}, {5, 0, 1, 5, 4, 5, 6, 7}, {4, 4, 4, 5, 4, 5, 5, 4}}},
	}
}

// badOverlays are no overlays, by what is wrong with them.
func badOverlays() map[string]dye.Overlay {
	return map[string]dye.Overlay{
		"no colour":                  {},
		"no colour and a dye":        {Dyes: [][]int{{}}},
		"-1 colours":                 {Colours: -1},
		"9 colours":                  {Colours: 9},
		"9 colours and dyes":         {Colours: 9, Dyes: [][]int{{0, 1, 2, 3, 4, 5, 6, 7, 8}}},
		"very many colours":          {Colours: math.MaxInt},
		"far too few colours":        {Colours: math.MinInt},
		"5 dyes":                     {Colours: 1, Dyes: [][]int{{0}, {0}, {0}, {0}, {0}}},
		"a dye without colours":      {Colours: 2, Dyes: [][]int{{}}},
		"no dye":                     {Colours: 2, Dyes: [][]int{nil}},
		"a dye with a colour less":   {Colours: 3, Dyes: [][]int{{0, 1}}},
		"a dye with a colour more":   {Colours: 3, Dyes: [][]int{{0, 1, 2, 2}}},
		"a last dye of another size": {Colours: 2, Dyes: [][]int{{0, 1}, {1, 0}, {0}}},
		"a colour -1":                {Colours: 2, Dyes: [][]int{{0, -1}}},
		"a colour too high":          {Colours: 2, Dyes: [][]int{{2, 0}}},
		"a last colour too high":     {Colours: 2, Dyes: [][]int{{0, 1}, {0, 2}}},
		"a very high colour":         {Colours: 2, Dyes: [][]int{{0, math.MaxInt}}},
		"a very low colour":          {Colours: 2, Dyes: [][]int{{math.MinInt, 0}}},
		"a colour that wraps to 0":   {Colours: 2, Dyes: [][]int{{256, 1 << 32}}},
	}
}

// badWords are no words for an overlay.
func badWords(o dye.Overlay) []string {
	l := []string{"x", "B", "W", "-", " ", "4", "9", "/", ":", "\x00", "\xff", "w\x80", "ŵ", "bw b", "wwx", "xww", strings.Repeat("b", 65), strings.Repeat("wb", 1000), strings.Repeat("w", 64) + "x"}
	for i := len(o.Dyes); i < 4; i++ {
		l = append(l, string(rune('0'+i)), "w"+string(rune('0'+i))+"b")
	}
	return l
}

func randomOverlay(r *rand.Rand, colours, dyes int) dye.Overlay {
	o := dye.Overlay{Colours: colours}
	for range dyes {
		var d []int
		for range colours {
			d = append(d, r.Intn(colours))
		}
		o.Dyes = append(o.Dyes, d)
	}
	return o
}

// randomWord returns a string of so many steps of an overlay.
func randomWord(r *rand.Rand, o dye.Overlay, length int) string {
	return randomString(r, strings.Join(stepsOf(o), ""), length)
}

func randomString(r *rand.Rand, letters string, length int) string {
	var b strings.Builder
	for range length {
		b.WriteByte(letters[r.Intn(len(letters))])
	}
	return b.String()
}

// randomRules returns valid rules with a From of at most so many of some letters.
func randomRules(r *rand.Rand, letters string, rules, length int) []dye.Rule {
	var l []dye.Rule
	for len(l) < rules {
		x := dye.Rule{From: randomString(r, letters, 1+r.Intn(length)), To: randomString(r, letters, r.Intn(length+1))}
		if shortlex(x.To, x.From) < 0 {
			l = append(l, x)
		}
	}
	return l
}

// counter are rules that count down by one the number in front of a w, in binary digits; there are at most 15 digits.
func counter() []dye.Rule {
	var l []dye.Rule
	for zeros := range 15 {
		l = append(l, dye.Rule{From: "1" + strings.Repeat("0", zeros) + "w", To: "0" + strings.Repeat("1", zeros) + "w"})
	}
	return l
}

// ruleLists are valid rules of many kinds.
func ruleLists() [][]dye.Rule {
	l := [][]dye.Rule{
		nil,
		{{From: "w"}},
		{{From: "00"}, {From: "0b", To: "b"}},
		{{From: "www", To: "b"}},
		{{From: "wbw", To: "b"}, {From: "bwb", To: "w"}},
		{{From: "wbwb", To: "bw"}, {From: "bw", To: "b"}, {From: "w"}},
		{{From: "ww", To: "b"}, {From: "ww", To: "w"}, {From: "ww", To: "0"}},
		{{From: "ww", To: "w"}, {From: "ww", To: "w"}},
		{{From: "10", To: "01"}, {From: "b0", To: "0b"}, {From: "b1", To: "1b"}},
		{{From: strings.Repeat("w", 16), To: strings.Repeat("b", 16)}, {From: strings.Repeat("w", 15), To: strings.Repeat("1", 15)}},
		counter(),
	}
	r := rand.New(rand.NewSource(42))
	for n := range 40 {
		l = append(l, randomRules(r, "bw", 1+n/4, 5), randomRules(r, "0bw", 1+n, 4), randomRules(r, "0123bw", 5*n, 3), randomRules(r, "01", 3, 16))
	}
	for _, o := range tiny() {
		if rules := must(dye.Rules(o)); areRules(rules) {
			l = append(l, rules)
		}
	}
	return append(l, randomRules(r, "0123bw", 200, 16))
}

// isRule follows the definition.
func isRule(r dye.Rule) bool {
	return len(r.From) <= 16 && len(r.To) <= 16 && !strings.ContainsFunc(r.From+r.To, func(c rune) bool { return !strings.ContainsRune("0123bw", c) }) && shortlex(r.To, r.From) < 0
}

func areRules(l []dye.Rule) bool {
	return len(l) <= 200 && !slices.ContainsFunc(l, func(r dye.Rule) bool { return !isRule(r) })
}

// badRules are no rules, by what is wrong with them.
func badRules() map[string][]dye.Rule {
	good := dye.Rule{From: "ww", To: "w"}
	l := map[string][]dye.Rule{"201 rules": slices.Repeat([]dye.Rule{good}, 201), "very many rules": slices.Repeat([]dye.Rule{good}, 100000)}
	for what, r := range map[string]dye.Rule{
		"an empty rule":         {},
		"an empty From":         {To: "b"},
		"To that is From":       {From: "wb", To: "wb"},
		"To after From":         {From: "bw", To: "wb"},
		"To longer than From":   {From: "w", To: "00"},
		"From of 17":            {From: strings.Repeat("w", 17), To: "w"},
		"From and To of 17":     {From: strings.Repeat("w", 17), To: strings.Repeat("b", 17)},
		"a very long From":      {From: strings.Repeat("b", 100000)},
		"From with a 4":         {From: "4", To: ""},
		"From with another x":   {From: "wxw", To: "b"},
		"To with another x":     {From: "www", To: "x"},
		"To with another byte":  {From: "www", To: "b\xff"},
		"From with a rune":      {From: "wŵ", To: "b"},
		"From with a large W":   {From: "W", To: ""},
		"From with a last zero": {From: "w\x00", To: ""},
	} {
		l[what] = []dye.Rule{r}
		l[what+", last"] = []dye.Rule{good, good, r}
		l[what+", first"] = []dye.Rule{r, good}
	}
	return l
}

// must returns the result of a call that has to succeed.
func must[T any](x T, e api.Errno) T {
	if e != api.OK {
		panic(e)
	}
	return x
}
