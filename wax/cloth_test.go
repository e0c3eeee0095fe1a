package wax_test

import (
	"math/rand"
	"slices"
	"testing"

	"canting/api"
	"canting/wax"
)

func TestP7_4_Energy(t *testing.T) {
	r := rand.New(rand.NewSource(84))
	for _, c := range cloths() {
		for _, rise := range []int{0, 1, -1, 7, -10_000, 10_000, r.Intn(20_001) - 10_000} {
			l := make([]bool, c.W*c.H)
			for i := range l {
				l[i] = r.Intn(2) == 0
			}
			if got, e := wax.Energy(c, rise, l); got != energy(c, rise, l) || e != api.OK {
				t.Errorf("%v: Energy(%d, %s) %d, %v, want %d", c, rise, bits(l), got, e, energy(c, rise, l))
			}
		}
	}
}

func TestP7_4_EnergyKnown(t *testing.T) {
	c := wax.Cloth{W: 3, H: 2, Bare: []int{1, 2, 3, 4, 5, 6}, Waxed: []int{10, 20, 30, 40, 50, 60}, Right: []int{100, 200, 300, 400}, Down: []int{500, 600, 700}}
	for _, x := range []struct {
		l       string
		r, want int
	}{
		{"000000", 9, 21},
		{"111111", 9, 264},
		{"111111", -10_000, -59_790},
		{"100000", 0, 30 + 600},
		{"010000", 0, 39 + 900},
		{"001000", 0, 48 + 900},
		{"000100", 0, 57 + 800},
		{"000010", 0, 66 + 1300},
		{"000001", 0, 75 + 1100},
		{"101010", 1, 102 + 3 + 2800},
	} {
		l := make([]bool, 6)
		for i := range l {
			l[i] = x.l[i] == '1'
		}
		if got, e := wax.Energy(c, x.r, l); got != x.want || e != api.OK {
			t.Errorf("Energy(%d, %s) %d, %v, want %d", x.r, x.l, got, e, x.want)
		}
	}
}

// rises are all those near which the labels of a cloth change, and the ends of the range.
func rises(c wax.Cloth) []int {
	l := []int{-10_000, -1001, -1000, 0, 1000, 1001, 10_000}
	for _, price := range must(wax.Prices(c)) {
		l = append(l, price-1, price, price+1)
	}
	slices.Sort(l)
	return slices.Compact(l)
}

func TestP7_4_Labels(t *testing.T) {
	different := 0
	for _, c := range smallCloths() {
		all := bools(c.W * c.H)
		for _, r := range rises(c) {
			best := energy(c, r, all[0])
			for _, l := range all {
				best = min(best, energy(c, r, l))
			}
			fewest, most := -1, -1
			for i, l := range all {
				if energy(c, r, l) != best {
					continue
				}
				if fewest < 0 || count(l) < count(all[fewest]) {
					fewest = i
				}
				if most < 0 || count(l) > count(all[most]) {
					most = i
				}
			}
			least, greatest, e := wax.Labels(c, r)
			if !slices.Equal(least, all[fewest]) || !slices.Equal(greatest, all[most]) || e != api.OK {
				t.Errorf("%v: Labels(%d) %s, %s, %v, want %s, %s", c, r, bits(least), bits(greatest), e, bits(all[fewest]), bits(all[most]))
			}
			if fewest != most {
				different++
			}
		}
	}
	if different < 100 {
		t.Errorf("only %d cloths have several cheapest labellings", different)
	}
}

func TestP7_4_LabelsOfLargeCloths(t *testing.T) {
	for _, c := range cloths() {
		l := rises(c)
		for k := 0; k < len(l); k += 1 + len(l)/6 {
			least, greatest, e := wax.Labels(c, l[k])
			fewest, most := labels(c, l[k], false), labels(c, l[k], true)
			if !slices.Equal(least, fewest.waxed) || !slices.Equal(greatest, most.waxed) || e != api.OK {
				t.Errorf("%v: Labels(%d) %s, %s, %v, want %s, %s", c, l[k], bits(least), bits(greatest), e, bits(fewest.waxed), bits(most.waxed))
			}
		}
	}
}

func TestP7_4_Errors(t *testing.T) {
	bad := badCloths()
	for _, what := range sorted(bad) {
		c := bad[what]
		for _, size := range []int{0, 1, 6, 9} {
			if n, e := wax.Energy(c, 0, make([]bool, size)); n != 0 || e != api.ErrArg {
				t.Errorf("%s: Energy %d, %v", what, n, e)
			}
		}
		if least, greatest, e := wax.Labels(c, 0); len(least) != 0 || len(greatest) != 0 || e != api.ErrArg {
			t.Errorf("%s: Labels %v, %v, %v", what, least, greatest, e)
		}
	}
	c := plainCloths()[0]
	for _, r := range badRises() {
		for size := range 4 {
			if n, e := wax.Energy(c, r, make([]bool, size)); n != 0 || e != api.ErrArg {
				t.Errorf("Energy at %d: %d, %v", r, n, e)
			}
		}
		if least, greatest, e := wax.Labels(c, r); len(least) != 0 || len(greatest) != 0 || e != api.ErrArg {
			t.Errorf("Labels at %d: %v, %v, %v", r, least, greatest, e)
		}
	}
	for _, size := range []int{0, 1, 3, 1_000_000} {
		if n, e := wax.Energy(c, 0, make([]bool, size)); n != 0 || e != api.ErrSize {
			t.Errorf("Energy of %d cells: %d, %v", size, n, e)
		}
	}
	for _, r := range []int{-10_000, 10_000} {
		least, greatest, e := wax.Labels(c, r)
		want := []bool{r < 0, r < 0}
		if !slices.Equal(least, want) || !slices.Equal(greatest, want) || e != api.OK {
			t.Errorf("Labels at %d: %v, %v, %v", r, least, greatest, e)
		}
	}
}

// atLeast returns which prices are at least r.
func atLeast(prices []int, r int) []bool {
	var l []bool
	for _, price := range prices {
		l = append(l, price >= r)
	}
	return l
}

// TestP7_5_Prices compares with labellings that are found row by row, for each price and the rises after it.
func TestP7_5_Prices(t *testing.T) {
	for _, c := range cloths() {
		prices, e := wax.Prices(c)
		if e != api.OK || len(prices) != c.W*c.H {
			t.Fatalf("%v: Prices %v, %v", c, prices, e)
		}
		l := rises(c)
		for k := 0; k < len(l); k += 1 + len(l)/40 {
			if want := labels(c, l[k], true).waxed; !slices.Equal(atLeast(prices, l[k]), want) {
				t.Errorf("%v: Prices %v: at %d %s are waxed", c, prices, l[k], bits(want))
			}
		}
	}
}

// TestP7_5_AllRises follows the definition: it goes through all rises at which something can change.
func TestP7_5_AllRises(t *testing.T) {
	for _, c := range plainCloths() {
		last := slices.Repeat([]int{-20_000}, c.W*c.H)
		for r := -1100; r <= 1100; r++ {
			_, greatest, _ := wax.Labels(c, r)
			for cell, waxed := range greatest {
				if waxed {
					last[cell] = r
				}
			}
		}
		if prices, e := wax.Prices(c); !slices.Equal(prices, last) || e != api.OK {
			t.Errorf("%v: Prices %v, %v, want %v", c, prices, e, last)
		}
	}
}

func TestP7_5_PricesKnown(t *testing.T) {
	for _, x := range []struct {
		c    wax.Cloth
		want []int
	}{
		{wax.Cloth{W: 1, H: 1, Bare: []int{7}, Waxed: []int{3}}, []int{4}},
		{wax.Cloth{W: 1, H: 1, Bare: []int{0}, Waxed: []int{1000}}, []int{-1000}},
		{wax.Cloth{W: 1, H: 1, Bare: []int{1000}, Waxed: []int{0}}, []int{1000}},
		{wax.Cloth{W: 2, H: 1, Bare: []int{9, 0}, Waxed: []int{0, 4}, Right: []int{0}}, []int{9, -4}},
		{wax.Cloth{W: 2, H: 1, Bare: []int{9, 0}, Waxed: []int{0, 4}, Right: []int{3}}, []int{6, -1}},
		{wax.Cloth{W: 1, H: 2, Bare: []int{9, 0}, Waxed: []int{0, 4}, Down: []int{6}}, []int{3, 2}},
		{wax.Cloth{W: 1, H: 2, Bare: []int{9, 0}, Waxed: []int{0, 4}, Down: []int{7}}, []int{2, 2}},
		{wax.Cloth{W: 1, H: 2, Bare: []int{8, 0}, Waxed: []int{0, 5}, Down: []int{1000}}, []int{1, 1}},
		{wax.Cloth{W: 1, H: 2, Bare: []int{5, 0}, Waxed: []int{0, 8}, Down: []int{1000}}, []int{-2, -2}},
		{evenCloth(6, 6, 1000, 0, 1000), slices.Repeat([]int{1000}, 36)},
		{evenCloth(6, 6, 0, 1000, 1000), slices.Repeat([]int{-1000}, 36)},
		{chequered(2, 2, 1000, 0), []int{1000, -1000, -1000, 1000}},
		{chequered(2, 2, 1000, 1), []int{998, -998, -998, 998}},
		{chequered(2, 2, 1000, 1000), []int{0, 0, 0, 0}},
	} {
		if prices, e := wax.Prices(x.c); !slices.Equal(prices, x.want) || e != api.OK {
			t.Errorf("%v: Prices %v, %v, want %v", x.c, prices, e, x.want)
		}
	}
}

func TestP7_5_Errors(t *testing.T) {
	bad := badCloths()
	for _, what := range sorted(bad) {
		if prices, e := wax.Prices(bad[what]); len(prices) != 0 || e != api.ErrArg {
			t.Errorf("%s: Prices %v, %v", what, prices, e)
		}
	}
}
