package dye_test

import (
	"slices"
	"testing"

	"canting/api"
	"canting/dye"
)

// small are overlays of which all products can be made.
func small() []dye.Overlay {
	var l []dye.Overlay
	for _, o := range overlays() {
		if len(must(dye.Elements(o))) <= 120 {
			l = append(l, o)
		}
	}
	return l
}

// products returns for all elements i and j the index of the element that does i and then j.
func products(o dye.Overlay) [][]int {
	l := must(dye.Elements(o))
	place := map[string]int{}
	var acts [][]int
	for i, w := range l {
		acts = append(acts, actOf(o, w))
		place[key(acts[i])] = i
	}
	var out [][]int
	for _, a := range acts {
		var row []int
		for _, b := range acts {
			both := make([]int, len(a))
			for s, to := range a {
				both[s] = b[to]
			}
			row = append(row, place[key(both)])
		}
		out = append(out, row)
	}
	return out
}

// rClass tells of two elements by the definition whether they are in one R-class.
func rClass(of [][]int, i, j int) bool {
	return slices.Contains(of[i], j) && slices.Contains(of[j], i)
}

// lClass tells of two elements by the definition whether they are in one L-class.
func lClass(of [][]int, i, j int) bool {
	from := func(i, j int) bool {
		return slices.ContainsFunc(of, func(row []int) bool { return row[i] == j })
	}
	return from(i, j) && from(j, i)
}

// lowest returns for each element the lowest one in a relation with it, which has to be itself or before it.
func lowest(n int, related func(i, j int) bool) []int {
	var out []int
	for i := range n {
		j := 0
		for !related(i, j) {
			j++
		}
		out = append(out, j)
	}
	return out
}

// chains returns for each element the lowest one to which a chain leads.
func chains(r, l []int) []int {
	d := slices.Clone(r)
	for more := true; more; {
		more = false
		for i := range d {
			for j := range d {
				if (r[i] == r[j] || l[i] == l[j]) && d[j] < d[i] {
					d[i] = d[j]
					more = true
				}
			}
		}
	}
	return d
}

func TestP4_6_Classes(t *testing.T) {
	for _, o := range small() {
		of := products(o)
		r := lowest(len(of), func(i, j int) bool { return rClass(of, i, j) })
		l := lowest(len(of), func(i, j int) bool { return lClass(of, i, j) })
		d := chains(r, l)
		gr, gl, gd, e := dye.Classes(o)
		if e != api.OK || !slices.Equal(gr, r) || !slices.Equal(gl, l) || !slices.Equal(gd, d) {
			t.Errorf("Classes(%v): %v, %v, %v, %v, want %v, %v, %v", o, gr, gl, gd, e, r, l, d)
		}
	}
}

func TestP4_6_ByHand(t *testing.T) {
	for _, x := range []struct {
		o       dye.Overlay
		r, l, d []int
	}{
		{dye.Overlay{Colours: 1}, []int{0, 1, 1}, []int{0, 1, 2}, []int{0, 1, 1}},
		{dye.Overlay{Colours: 1, Dyes: [][]int{{0}}}, []int{0, 1, 1}, []int{0, 1, 2}, []int{0, 1, 1}},
		// The elements: the empty one, 0, b, w, 0b, 0w, b0, b0w.
		{dye.Overlay{Colours: 2, Dyes: [][]int{{1, 1}}}, []int{0, 1, 2, 2, 4, 4, 6, 6}, []int{0, 1, 2, 3, 2, 3, 6, 7}, []int{0, 1, 2, 2, 2, 2, 6, 6}},
		// The elements: the empty one, 0, b, w, 0b, 0w, b0, 0b0, b0w, 0b0w.
		{dye.Overlay{Colours: 2, Dyes: [][]int{{1, 0}}}, []int{0, 0, 2, 2, 4, 4, 2, 4, 2, 4}, []int{0, 0, 2, 3, 2, 3, 2, 2, 3, 3}, []int{0, 0, 2, 2, 2, 2, 2, 2, 2, 2}},
	} {
		r, l, d, e := dye.Classes(x.o)
		if e != api.OK || !slices.Equal(r, x.r) || !slices.Equal(l, x.l) || !slices.Equal(d, x.d) {
			t.Errorf("Classes(%v): %v, %v, %v, %v, elements %q", x.o, r, l, d, e, must(dye.Elements(x.o)))
		}
	}
}

func TestP4_7_Idempotents(t *testing.T) {
	for _, o := range slices.Concat(overlays(), full()) {
		var want []string
		for _, w := range must(dye.Elements(o)) {
			if keyOf(o, w+w) == keyOf(o, w) {
				want = append(want, w)
			}
		}
		if got, e := dye.Idempotents(o); e != api.OK || !slices.Equal(got, want) {
			t.Errorf("Idempotents(%v): %q, %v, want %q", o, got, e, want)
		}
	}
	if got, e := dye.Idempotents(dye.Overlay{Colours: 2, Dyes: [][]int{{1, 0}}}); e != api.OK || !slices.Equal(got, []string{"", "b", "w", "0w", "0b0"}) {
		t.Errorf("of a swap: %q, %v", got, e)
	}
}

func TestP4_12_Green(t *testing.T) {
	for _, o := range overlays() {
		r, l, d, e := dye.Classes(o)
		if e != api.OK {
			t.Errorf("Classes(%v): %v", o, e)
		}
		meet := map[[2]int]bool{}
		for i := range r {
			meet[[2]int{r[i], l[i]}] = true
		}
		for i := range d {
			for j := range d {
				if (d[i] == d[j]) != meet[[2]int{r[i], l[j]}] {
					t.Errorf("%v: elements %d and %d: D-classes %d and %d, an element in the R-class of the one and the L-class of the other: %v", o, i, j, d[i], d[j], meet[[2]int{r[i], l[j]}])
				}
			}
		}
	}
}
