package dye_test

import (
	"math"
	"math/rand"
	"slices"
	"strings"
	"testing"

	"canting/api"
	"canting/dye"
)

// TestP4_2_AllStrings compares with the lists of all strings.
func TestP4_2_AllStrings(t *testing.T) {
	for _, o := range tiny() {
		forms, all := firsts(o)
		if got, e := dye.Elements(o); e != api.OK || !slices.Equal(got, inOrder(forms)) {
			t.Errorf("Elements(%v): %q, %v, want %q", o, got, e, inOrder(forms))
		}
		for i := 0; i < len(all); i += 1 + len(all)/500 {
			if got, e := dye.Normal(o, all[i]); e != api.OK || got != forms[keyOf(o, all[i])] {
				t.Errorf("Normal(%v, %q): %q, %v, want %q", o, all[i], got, e, forms[keyOf(o, all[i])])
			}
		}
	}
}

// TestP4_2_Elements checks that the elements are in order, that their actions are all there are, each once, and that none has an earlier string: all of its own factors are elements.
func TestP4_2_Elements(t *testing.T) {
	for _, o := range slices.Concat(overlays(), full()) {
		l := must(dye.Elements(o))
		if l[0] != "" || !slices.IsSortedFunc(l, shortlex) {
			t.Errorf("Elements(%v): %q", o, l)
		}
		byAct := map[string]string{}
		for _, w := range l {
			if other, known := byAct[keyOf(o, w)]; known {
				t.Errorf("Elements(%v): %q and %q have the same action", o, other, w)
			}
			byAct[keyOf(o, w)] = w
		}
		for _, w := range l {
			for _, s := range stepsOf(o) {
				first, known := byAct[keyOf(o, w+s)]
				if !known || shortlex(first, w+s) > 0 {
					t.Errorf("Elements(%v): %q has the action of %q, %v", o, w+s, first, known)
				}
			}
		}
	}
}

func TestP4_2_Normal(t *testing.T) {
	r := rand.New(rand.NewSource(48))
	for _, o := range overlays() {
		byAct := map[string]string{}
		for _, w := range must(dye.Elements(o)) {
			byAct[keyOf(o, w)] = w
			if got, e := dye.Normal(o, w); e != api.OK || got != w {
				t.Errorf("Normal(%v, %q): %q, %v", o, w, got, e)
			}
		}
		for length := range 65 {
			w := randomWord(r, o, length)
			if got, e := dye.Normal(o, w); e != api.OK || got != byAct[keyOf(o, w)] {
				t.Errorf("Normal(%v, %q): %q, %v, want %q", o, w, got, e, byAct[keyOf(o, w)])
			}
		}
	}
}

func TestP4_2_Find(t *testing.T) {
	r := rand.New(rand.NewSource(49))
	none := 0
	for _, o := range overlays() {
		byAct := map[string]string{}
		for _, w := range must(dye.Elements(o)) {
			byAct[keyOf(o, w)] = w
			if got, e := dye.Find(o, actOf(o, w)); e != api.OK || got != w {
				t.Errorf("Find(%v, %v): %q, %v, want %q", o, actOf(o, w), got, e, w)
			}
		}
		for range 100 {
			act := make([]int, 2*o.Colours)
			for i := range act {
				act[i] = r.Intn(2 * o.Colours)
			}
			want, known := byAct[key(act)]
			got, e := dye.Find(o, act)
			if got != want || known && e != api.OK || !known && e != api.ErrNone {
				t.Errorf("Find(%v, %v): %q, %v, want %q", o, act, got, e, want)
			}
			if !known {
				none++
			}
		}
	}
	if none == 0 {
		t.Error("all actions are in their monoids")
	}
	one := dye.Overlay{Colours: 1}
	for _, x := range []struct {
		act  []int
		want string
		e    api.Errno
	}{
		{[]int{0, 1}, "", api.OK},
		{[]int{0, 0}, "b", api.OK},
		{[]int{1, 1}, "w", api.OK},
		{[]int{1, 0}, "", api.ErrNone},
	} {
		if got, e := dye.Find(one, x.act); e != x.e || got != x.want {
			t.Errorf("Find(%v, %v): %q, %v", one, x.act, got, e)
		}
	}
}

// TestP4_2_FindArguments checks acts that are not valid, also where the monoid has too many actions.
func TestP4_2_FindArguments(t *testing.T) {
	for _, o := range slices.Concat(overlays(), large()) {
		n := 2 * o.Colours
		good := actOf(o, "w")
		for _, act := range [][]int{nil, {}, good[1:], append(slices.Clone(good), 0), append(slices.Clone(good), good...), make([]int, 17), make([]int, 1000)} {
			if got, e := dye.Find(o, act); e != api.ErrArg || got != "" {
				t.Errorf("Find(%v, %v): %q, %v", o, act, got, e)
			}
		}
		for at := range good {
			for _, s := range []int{-1, n, n + 1, 16, 256, math.MaxInt, math.MinInt, 1 << 32} {
				act := slices.Clone(good)
				act[at] = s
				if got, e := dye.Find(o, act); e != api.ErrArg || got != "" {
					t.Errorf("Find(%v, %v): %q, %v", o, act, got, e)
				}
			}
		}
	}
	for what, o := range badOverlays() {
		for _, act := range [][]int{nil, {0}, {0, 1}, {0, 1, 2, 3}} {
			if got, e := dye.Find(o, act); e != api.ErrArg || got != "" {
				t.Errorf("Find with %s: %q, %v", what, got, e)
			}
		}
	}
}

// checkError checks the functions that need the whole monoid.
func checkError(t *testing.T, o dye.Overlay, want api.Errno) {
	t.Helper()
	if l, e := dye.Elements(o); e != want || len(l) != 0 {
		t.Errorf("Elements(%v): %v, %v", o, l, e)
	}
	if l, e := dye.Rules(o); e != want || len(l) != 0 {
		t.Errorf("Rules(%v): %v, %v", o, l, e)
	}
	if l, e := dye.Idempotents(o); e != want || len(l) != 0 {
		t.Errorf("Idempotents(%v): %v, %v", o, l, e)
	}
	if r, l, d, e := dye.Classes(o); e != want || len(r) != 0 || len(l) != 0 || len(d) != 0 {
		t.Errorf("Classes(%v): %v, %v, %v, %v", o, r, l, d, e)
	}
}

func TestP4_2_Size(t *testing.T) {
	for _, o := range large() {
		checkError(t, o, api.ErrSize)
		for _, w := range []string{"", "w", "0", strings.Repeat("0b", 32)} {
			if got, e := dye.Normal(o, w); e != api.ErrSize || got != "" {
				t.Errorf("Normal(%v, %q): %q, %v", o, w, got, e)
			}
			if got, e := dye.Find(o, actOf(o, w)); e != api.ErrSize || got != "" {
				t.Errorf("Find(%v, action of %q): %q, %v", o, w, got, e)
			}
		}
		none := make([]int, 2*o.Colours)
		none[0] = 1 // a bare cell waxed and all waxed ones bare: no string does that
		if got, e := dye.Find(o, none); e != api.ErrSize || got != "" {
			t.Errorf("Find(%v, %v): %q, %v", o, none, got, e)
		}
	}
	for _, o := range full() {
		if l, e := dye.Elements(o); e != api.OK || len(l) != api.MaxElems {
			t.Errorf("Elements(%v): %d, %v", o, len(l), e)
		}
		if l, e := dye.Rules(o); e != api.OK || len(l) == 0 {
			t.Errorf("Rules(%v): %d, %v", o, len(l), e)
		}
		if got, e := dye.Normal(o, "ww"); e != api.OK || got != "w" {
			t.Errorf("Normal(%v, ww): %q, %v", o, got, e)
		}
	}
}

func TestP4_2_Arguments(t *testing.T) {
	for _, o := range badOverlays() {
		checkError(t, o, api.ErrArg)
	}
}

// rulesOf follows the definition: it looks at all strings that are a step longer than a normal form, and at all their factors.
func rulesOf(o dye.Overlay) []dye.Rule {
	l := must(dye.Elements(o))
	isForm := map[string]bool{}
	byAct := map[string]string{}
	for _, w := range l {
		isForm[w] = true
		byAct[keyOf(o, w)] = w
	}
	var out []dye.Rule
	for _, w := range longer(o, l) {
		least := !isForm[w]
		for i := range len(w) {
			for j := i; j <= len(w); j++ {
				least = least && (isForm[w[i:j]] || j-i == len(w))
			}
		}
		if least {
			out = append(out, dye.Rule{From: w, To: byAct[keyOf(o, w)]})
		}
	}
	slices.SortFunc(out, func(a, b dye.Rule) int { return shortlex(a.From, b.From) })
	return out
}

func TestP4_3_Rules(t *testing.T) {
	for _, o := range overlays() {
		if got, e := dye.Rules(o); e != api.OK || !slices.Equal(got, rulesOf(o)) {
			t.Errorf("Rules(%v): %q, %v, want %q", o, got, e, rulesOf(o))
		}
	}
}

// TestP4_3_AllStrings looks at all strings up to one step more than the longest normal form has.
func TestP4_3_AllStrings(t *testing.T) {
	for _, o := range tiny() {
		forms, all := firsts(o)
		isForm := map[string]bool{}
		for _, w := range forms {
			isForm[w] = true
		}
		var want []dye.Rule
		for _, w := range all {
			if w != "" && !isForm[w] && isForm[w[1:]] && isForm[w[:len(w)-1]] {
				want = append(want, dye.Rule{From: w, To: forms[keyOf(o, w)]})
			}
		}
		if got, e := dye.Rules(o); e != api.OK || !slices.Equal(got, want) {
			t.Errorf("Rules(%v): %q, %v, want %q", o, got, e, want)
		}
	}
}

func TestP4_3_ByHand(t *testing.T) {
	for _, x := range []struct {
		o    dye.Overlay
		want []dye.Rule
	}{
		{dye.Overlay{Colours: 1}, []dye.Rule{{From: "bb", To: "b"}, {From: "bw", To: "w"}, {From: "wb", To: "b"}, {From: "ww", To: "w"}}},
		{dye.Overlay{Colours: 1, Dyes: [][]int{{0}}}, []dye.Rule{{From: "0"}, {From: "bb", To: "b"}, {From: "bw", To: "w"}, {From: "wb", To: "b"}, {From: "ww", To: "w"}}},
		{dye.Overlay{Colours: 2, Dyes: [][]int{{1, 1}, {0, 1}, {1, 1}}}, []dye.Rule{
			{From: "1"}, {From: "2", To: "0"}, {From: "00", To: "0"}, {From: "bb", To: "b"}, {From: "bw", To: "w"}, {From: "w0", To: "w"}, {From: "wb", To: "b"}, {From: "ww", To: "w"}, {From: "0b0", To: "b0"}, {From: "b0b", To: "b0"},
		}},
	} {
		if got, e := dye.Rules(x.o); e != api.OK || !slices.Equal(got, x.want) {
			t.Errorf("Rules(%v): %q, %v, want %q", x.o, got, e, x.want)
		}
	}
}

func TestP4_9_NormalForms(t *testing.T) {
	r := rand.New(rand.NewSource(50))
	for _, o := range overlays() {
		for range 50 {
			u, v := randomWord(r, o, r.Intn(8)), randomWord(r, o, r.Intn(8))
			same, e := dye.Same(o, u, v)
			if e != api.OK || same != (must(dye.Normal(o, u)) == must(dye.Normal(o, v))) {
				t.Errorf("%v: %q and %q: Same %v, Normal %q and %q", o, u, v, same, must(dye.Normal(o, u)), must(dye.Normal(o, v)))
			}
			form := must(dye.Normal(o, u))
			for i := range len(form) {
				for j := i; j <= len(form); j++ {
					if got := must(dye.Normal(o, form[i:j])); got != form[i:j] {
						t.Errorf("%v: %q is a factor of the normal form %q, but has the normal form %q", o, form[i:j], form, got)
					}
				}
			}
		}
	}
}
