package dye_test

import (
	"math"
	"math/rand"
	"slices"
	"strings"
	"testing"

	"canting/api"
	"canting/dye"
)

func TestP4_1_Valid(t *testing.T) {
	r := rand.New(rand.NewSource(43))
	for colours := 1; colours <= 8; colours++ {
		for dyes := range 5 {
			if o := randomOverlay(r, colours, dyes); !dye.Valid(o) {
				t.Errorf("not valid: %v", o)
			}
		}
	}
	for what, o := range badOverlays() {
		if dye.Valid(o) {
			t.Errorf("valid, with %s: %v", what, o)
		}
	}
	for c := -3; c <= 12; c++ {
		for dyes := 1; dyes <= 4; dyes++ {
			for at := range 3 * dyes {
				o := dye.Overlay{Colours: 3, Dyes: [][]int{{0, 1, 2}, {2, 2, 2}, {0, 0, 0}, {1, 2, 0}}[:dyes]}
				o.Dyes[at/3][at%3] = c
				if dye.Valid(o) != (c >= 0 && c < 3) {
					t.Errorf("Valid(%v): %v", o, dye.Valid(o))
				}
			}
		}
	}
}

func TestP4_1_Act(t *testing.T) {
	r := rand.New(rand.NewSource(44))
	for _, o := range slices.Concat(overlays(), full(), large()) {
		for length := range 65 {
			w := randomWord(r, o, length)
			if got, e := dye.Act(o, w); e != api.OK || !slices.Equal(got, actOf(o, w)) {
				t.Errorf("Act(%v, %q): %v, %v, want %v", o, w, got, e, actOf(o, w))
			}
		}
	}
}

func TestP4_1_ActByHand(t *testing.T) {
	two := dye.Overlay{Colours: 2, Dyes: [][]int{{1, 1}}}
	four := dye.Overlay{Colours: 3, Dyes: [][]int{{1, 1, 2}, {2, 2, 2}, {1, 2, 0}, {0, 1, 2}}}
	for _, x := range []struct {
		o    dye.Overlay
		w    string
		want []int
	}{
		{two, "", []int{0, 1, 2, 3}},
		{two, "0", []int{2, 1, 2, 3}},
		{two, "b", []int{0, 0, 2, 2}},
		{two, "w", []int{1, 1, 3, 3}},
		{two, "w0b", []int{0, 0, 2, 2}},
		{two, "0w", []int{3, 1, 3, 3}},
		{two, "b0", []int{2, 2, 2, 2}},
		{four, "2", []int{2, 1, 4, 3, 0, 5}},
		{four, "02", []int{4, 1, 4, 3, 0, 5}},
		{four, "20", []int{2, 1, 4, 3, 2, 5}},
		{four, "2w0b3", []int{2, 0, 4, 2, 0, 4}},
		{four, "3", []int{0, 1, 2, 3, 4, 5}},
		{four, strings.Repeat("2", 64), []int{2, 1, 4, 3, 0, 5}},
	} {
		if got, e := dye.Act(x.o, x.w); e != api.OK || !slices.Equal(got, x.want) {
			t.Errorf("Act(%v, %q): %v, %v, want %v", x.o, x.w, got, e, x.want)
		}
	}
}

func TestP4_1_Same(t *testing.T) {
	r := rand.New(rand.NewSource(45))
	for _, o := range slices.Concat(overlays(), full(), large()) {
		for range 100 {
			u, v := randomWord(r, o, r.Intn(6)), randomWord(r, o, r.Intn(6))
			if got, e := dye.Same(o, u, v); e != api.OK || got != (keyOf(o, u) == keyOf(o, v)) {
				t.Errorf("Same(%v, %q, %q): %v, %v", o, u, v, got, e)
			}
			long := randomWord(r, o, 64)
			if got, e := dye.Same(o, long, long); e != api.OK || !got {
				t.Errorf("Same(%v, %q, itself): %v, %v", o, long, got, e)
			}
		}
	}
	o := dye.Overlay{Colours: 2, Dyes: [][]int{{1, 1}}}
	if got, e := dye.Same(o, "w0b", "b"); e != api.OK || !got {
		t.Errorf("w0b and b: %v, %v", got, e)
	}
	if got, e := dye.Same(o, "0w", "w0"); e != api.OK || got {
		t.Errorf("0w and w0: %v, %v", got, e)
	}
}

// TestP4_1_Arguments checks what is no overlay or no word, for all functions that have these arguments.
func TestP4_1_Arguments(t *testing.T) {
	check := func(o dye.Overlay, w string) {
		t.Helper()
		if got, e := dye.Act(o, w); e != api.ErrArg || len(got) != 0 {
			t.Errorf("Act(%v, %q): %v, %v", o, w, got, e)
		}
		for _, good := range []string{"", "w", w} {
			if got, e := dye.Same(o, w, good); e != api.ErrArg || got {
				t.Errorf("Same(%v, %q, %q): %v, %v", o, w, good, got, e)
			}
			if got, e := dye.Same(o, good, w); e != api.ErrArg || got {
				t.Errorf("Same(%v, %q, %q): %v, %v", o, good, w, got, e)
			}
		}
		if got, e := dye.Normal(o, w); e != api.ErrArg || got != "" {
			t.Errorf("Normal(%v, %q): %v, %v", o, w, got, e)
		}
		if index, period, e := dye.Cycle(o, w); e != api.ErrArg || index != 0 || period != 0 {
			t.Errorf("Cycle(%v, %q): %v, %v, %v", o, w, index, period, e)
		}
	}
	for _, o := range badOverlays() {
		for _, w := range []string{"", "b", "w", "0", "x"} {
			check(o, w)
		}
	}
	for _, o := range slices.Concat(overlays(), large()) {
		for _, w := range badWords(o) {
			check(o, w)
		}
	}
}

// cycleOf compares the powers of a word, up to one that is higher than all that can be needed.
func cycleOf(o dye.Overlay, w string) (int, int) {
	var powers []string // of 1 and so on
	for n := 1; n <= 60; n++ {
		powers = append(powers, keyOf(o, strings.Repeat(w, n)))
	}
	for index := 1; ; index++ {
		for period := 1; index+period <= len(powers); period++ {
			if powers[index-1] == powers[index+period-1] {
				return index, period
			}
		}
	}
}

func TestP4_7_Cycle(t *testing.T) {
	r := rand.New(rand.NewSource(46))
	for _, o := range slices.Concat(overlays(), full(), large()) {
		for length := range 12 {
			w := randomWord(r, o, length)
			index, period, e := dye.Cycle(o, w)
			if i, p := cycleOf(o, w); e != api.OK || index != i || period != p {
				t.Errorf("Cycle(%v, %q): %d, %d, %v, want %d, %d", o, w, index, period, e, i, p)
			}
		}
	}
	for _, x := range []struct {
		dye           []int
		w             string
		index, period int
	}{
		{[]int{0}, "", 1, 1},
		{[]int{0}, "w", 1, 1},
		{[]int{1, 2, 3, 4, 5, 6, 7, 0}, "0", 1, 8},
		{[]int{1, 2, 0, 4, 5, 6, 7, 3}, "0", 1, 15},
		{[]int{1, 2, 0, 4, 5, 6, 7, 3}, "b0", 1, 15},
		{[]int{1, 2, 0, 4, 5, 6, 7, 3}, "0b", 1, 15},
		{[]int{1, 2, 0, 4, 5, 6, 7, 3}, "w0b", 1, 1},
		{[]int{1, 2, 0, 4, 5, 6, 7, 3}, "0w", 1, 1},
		{[]int{1, 2, 3, 4, 5, 6, 7, 7}, "0", 7, 1},
		{[]int{1, 2, 3, 4, 5, 6, 7, 7}, "b0", 7, 1},
		{[]int{1, 2, 3, 4, 5, 6, 7, 7}, "0b", 8, 1}, // the first time it does not dye waxed cells
		{[]int{1, 2, 3, 4, 5, 6, 7, 3}, "0", 3, 5},
		{[]int{1, 2, 3, 4, 5, 6, 7, 3}, "00", 2, 5},
		{[]int{1, 2, 0, 4, 5, 6, 7, 3}, strings.Repeat("0", 64), 1, 15},
		{[]int{1, 2, 0, 4, 5, 6, 7, 3}, strings.Repeat("0", 60), 1, 1},
	} {
		o := dye.Overlay{Colours: len(x.dye), Dyes: [][]int{x.dye}}
		if index, period, e := dye.Cycle(o, x.w); e != api.OK || index != x.index || period != x.period {
			t.Errorf("Cycle(%v, %q): %d, %d, %v, want %d, %d", o, x.w, index, period, e, x.index, x.period)
		}
	}
}

// reachOf adds what steps make of states until there is nothing new.
func reachOf(o dye.Overlay, s int) []int {
	reach := []int{s}
	for i := 0; i < len(reach); i++ {
		for _, letter := range stepsOf(o) {
			if to := actOf(o, letter)[reach[i]]; !slices.Contains(reach, to) {
				reach = append(reach, to)
			}
		}
	}
	slices.Sort(reach)
	return reach
}

func TestP4_8_Reach(t *testing.T) {
	for _, o := range slices.Concat(overlays(), full(), large()) {
		for s := range 2 * o.Colours {
			if got, e := dye.Reach(o, s); e != api.OK || !slices.Equal(got, reachOf(o, s)) {
				t.Errorf("Reach(%v, %d): %v, %v, want %v", o, s, got, e, reachOf(o, s))
			}
		}
		for _, s := range []int{-1, 2 * o.Colours, 2*o.Colours + 1, 16, 17, math.MaxInt, math.MinInt, 1 << 32} {
			if got, e := dye.Reach(o, s); e != api.ErrArg || len(got) != 0 {
				t.Errorf("Reach(%v, %d): %v, %v", o, s, got, e)
			}
		}
	}
	for what, o := range badOverlays() {
		if got, e := dye.Reach(o, 0); e != api.ErrArg || len(got) != 0 {
			t.Errorf("Reach with %s: %v, %v", what, got, e)
		}
	}
	fall := dye.Overlay{Colours: 4, Dyes: [][]int{{3, 1, 1, 2}}}
	for s, want := range [][]int{{0, 1, 2, 3, 4, 5, 6, 7}, {0, 1, 2, 3, 4, 5, 6, 7}, {2, 3}, {2, 3}, {2, 3, 4, 5}, {2, 3, 4, 5}, {2, 3, 4, 5, 6, 7}, {2, 3, 4, 5, 6, 7}} {
		if got, e := dye.Reach(fall, s); e != api.OK || !slices.Equal(got, want) {
			t.Errorf("Reach(%v, %d): %v, %v, want %v", fall, s, got, e, want)
		}
	}
}

func TestP4_13_Cycles(t *testing.T) {
	r := rand.New(rand.NewSource(47))
	for _, o := range slices.Concat(overlays(), large()) {
		for range 20 {
			w := randomWord(r, o, r.Intn(5))
			index, period, e := dye.Cycle(o, w)
			if e != api.OK {
				t.Errorf("Cycle(%v, %q): %v", o, w, e)
			}
			for n := range 4 {
				if later := strings.Repeat(w, index+n*period); keyOf(o, later) != keyOf(o, strings.Repeat(w, index)) {
					t.Errorf("%v, %q: its power %d is another one than its power %d", o, w, index+n*period, index)
				}
			}
		}
	}
}
