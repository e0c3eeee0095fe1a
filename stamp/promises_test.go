package stamp_test

import (
	"math"
	"math/rand"
	"slices"
	"testing"

	"canting/api"
	"canting/exact"
	"canting/stamp"
)

func TestP3_7_Group(t *testing.T) {
	r := rand.New(rand.NewSource(51))
	pairs(func(w, h int, a, b stamp.Move) {
		after := func(a, b stamp.Move) stamp.Move { return must(stamp.After(w, h, a, b)) }
		c := randomMove(r, w, h)
		if x, y := after(a, after(b, c)), after(after(a, b), c); x != y {
			t.Errorf("of %v, %v, %v in %d by %d: %v and %v", a, b, c, w, h, x, y)
		}
		back := must(stamp.Inverse(w, h, a))
		if after(back, a) != (stamp.Move{}) || after(a, back) != (stamp.Move{}) {
			t.Errorf("%v and its inverse %v in %d by %d", a, back, w, h)
		}
		s := randomStamp(r, w, h, 8)
		once, twice := must(stamp.Apply(after(a, b), s)), must(stamp.Apply(a, must(stamp.Apply(b, s))))
		if !same(once, twice) {
			t.Errorf("%v after %v makes of %v: %v, one by one %v", a, b, s, once, twice)
		}
	})
}

func TestP3_8_Orbits(t *testing.T) {
	groups(func(r *rand.Rand, w, h int, g []stamp.Move) {
		for _, s := range []stamp.Stamp{randomStamp(r, w, h, 2), randomAlike(r, w, h, 2, randomGroup(r, w, h))} {
			orbit := must(stamp.Orbit(g, s))
			if kept := must(stamp.Keeps(g, s)); len(kept)*len(orbit) != len(g) {
				t.Errorf("%d of %d moves keep %v, which has an orbit of %d", len(kept), len(g), s, len(orbit))
			}
			least := must(stamp.Least(g, s))
			if again := must(stamp.Least(g, least)); !same(again, least) {
				t.Errorf("Least of %v: %v, of that %v", s, least, again)
			}
			for range 5 {
				x := orbit[r.Intn(len(orbit))]
				if other := must(stamp.Least(g, x)); !same(other, least) {
					t.Errorf("Least of %v: %v, of %v in its orbit %v", s, least, x, other)
				}
			}
		}
	})
}

func TestP3_9_Burnside(t *testing.T) {
	groups(func(r *rand.Rand, w, h int, g []stamp.Move) {
		for colours := 1; colours <= 8; colours++ {
			l, e := stamp.List(w, h, colours, g)
			if !fits(w, h, colours) {
				continue
			}
			n := must(exact.ToInt(must(stamp.Burnside(w, h, colours, g))))
			if e != api.OK || n != len(l) {
				t.Errorf("%d by %d, %d colours, %v: Burnside %d, List %d, %v", w, h, colours, g, n, len(l), e)
			}
		}
	})
}

// repeated returns the stamp with its width or its height doubled.
func repeated(s stamp.Stamp, wide bool) stamp.Stamp {
	if !wide {
		return stamp.Stamp{W: s.W, H: 2 * s.H, Cells: slices.Repeat(s.Cells, 2)}
	}
	out := stamp.Stamp{W: 2 * s.W, H: s.H}
	for row := range slices.Chunk(s.Cells, s.W) {
		out.Cells = slices.Concat(out.Cells, row, row)
	}
	return out
}

func TestP3_10_Kinds(t *testing.T) {
	r := rand.New(rand.NewSource(52))
	for range 400 {
		w, h := 1+r.Intn(6), 1+r.Intn(6)
		if r.Intn(2) == 0 {
			h = w
		}
		s := randomAlike(r, w, h, 1+r.Intn(8), randomGroup(r, w, h))
		kind := must(stamp.Kind(s))
		m := randomMove(r, w, h)
		if k := must(stamp.Kind(must(stamp.Apply(m, s)))); k != kind {
			t.Errorf("Kind of %v is %s, moved by %v %s", s, kind, m, k)
		}
		for _, wide := range []bool{false, true} {
			double := repeated(s, wide)
			if k, e := stamp.Kind(double); e == api.OK && k != kind || e != api.OK && double.W <= 6 && double.H <= 6 {
				t.Errorf("Kind of %v is %s, repeated as %v %s, %v", s, kind, double, k, e)
			}
		}
	}
}

func TestExample1(t *testing.T) {
	for z, want := range map[[2]int]int{{1, 1}: 8, {2, 1}: 8, {2, 2}: 32} {
		if l, e := stamp.Moves(z[0], z[1]); e != api.OK || len(l) != want {
			t.Errorf("Moves of %v: %v, %v", z, l, e)
		}
	}
	want := []stamp.Move{{}, {DX: 1}, {Turn: 2}, {DX: 1, Turn: 2}, {Flip: true}, {DX: 1, Flip: true}, {Turn: 2, Flip: true}, {DX: 1, Turn: 2, Flip: true}}
	if l := must(stamp.Moves(2, 1)); !slices.Equal(l, want) {
		t.Errorf("Moves(2, 1): %v", l)
	}
}

func TestExample2(t *testing.T) {
	s, other := stamp.Stamp{W: 2, H: 1, Cells: []int{0, 1}}, stamp.Stamp{W: 2, H: 1, Cells: []int{1, 0}}
	if x := must(stamp.Apply(stamp.Move{DX: 1}, s)); !same(x, other) {
		t.Errorf("Apply: %v", x)
	}
	all := must(stamp.Moves(2, 1))
	want := []stamp.Move{{}, {Turn: 2}, {Flip: true}, {Turn: 2, Flip: true}}
	if l := must(stamp.Keeps(all, s)); !slices.Equal(l, want) {
		t.Errorf("Keeps: %v, want %v", l, want)
	}
	if l := must(stamp.Orbit(all, s)); !slices.EqualFunc(l, []stamp.Stamp{s, other}, same) {
		t.Errorf("Orbit: %v", l)
	}
	for _, x := range []stamp.Stamp{s, other} {
		if x := must(stamp.Least(all, x)); !same(x, s) {
			t.Errorf("Least: %v", x)
		}
	}
	if n := must(exact.ToInt(must(stamp.Burnside(2, 1, 2, all)))); n != 3 {
		t.Errorf("Burnside: %d", n)
	}
	three := []stamp.Stamp{{W: 2, H: 1, Cells: []int{0, 0}}, s, {W: 2, H: 1, Cells: []int{1, 1}}}
	if l := must(stamp.List(2, 1, 2, all)); !slices.EqualFunc(l, three, same) {
		t.Errorf("List: %v", l)
	}
}

func TestExample3(t *testing.T) {
	for picture, want := range map[string]string{"5": "p4m", "01": "pmm", "01 10": "p4m", "012": "pm"} {
		if k, e := stamp.Kind(drawn(picture)); e != api.OK || k != want {
			t.Errorf("Kind of %s: %s, %v", picture, k, e)
		}
	}
}

// TestTotality calls the functions with what is far from valid: every call has to return.
func TestTotality(t *testing.T) {
	far := []int{math.MinInt, math.MinInt32, -1, 0, 1, 3, 8, 9, 64, 1 << 31, 1 << 32, math.MaxInt}
	for _, a := range far {
		for _, b := range far {
			for _, c := range far {
				m := stamp.Move{DX: c, DY: a, Turn: b, Flip: a < 0}
				for _, cells := range [][]int{nil, {0}, {c}, make([]int, 64), {a, b, c}} {
					s := stamp.Stamp{W: a, H: b, Cells: cells}
					stamp.Valid(s)
					stamp.Apply(m, s)
					stamp.Apply(stamp.Move{}, s)
					stamp.Keeps([]stamp.Move{{}}, s)
					stamp.Orbit([]stamp.Move{{}, m}, s)
					stamp.Least([]stamp.Move{m}, s)
					stamp.Kind(s)
				}
				g := []stamp.Move{{}, m}
				stamp.After(a, b, m, m)
				stamp.Inverse(a, b, m)
				stamp.Moves(a, b)
				stamp.Close(a, b, g)
				stamp.Close(3, 3, g)
				stamp.Cells(a, b, g)
				stamp.Cells(3, 3, g)
				stamp.Burnside(a, b, c, g)
				stamp.Burnside(a, b, c, []stamp.Move{{}})
				stamp.List(a, b, c, g)
				stamp.List(a, b, c, []stamp.Move{{}})
			}
		}
	}
	long := slices.Repeat([]stamp.Move{{}}, 1<<20)
	if _, e := stamp.Close(8, 8, long); e != api.ErrArg {
		t.Errorf("Close of a long list: %v", e)
	}
	if _, e := stamp.Cells(8, 8, long); e != api.ErrArg {
		t.Errorf("Cells of a long list: %v", e)
	}
}
