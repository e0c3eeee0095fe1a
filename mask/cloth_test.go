package mask_test

import (
	"math"
	"math/rand"
	"testing"

	"canting/api"
	"canting/mask"
)

// cellAt returns the point of a cell by the chapter's words: the bits of x and of y by turns, the highest ones first.
func cellAt(k, x, y int) int {
	p := 0
	for i := range k {
		p = with(p, 2*i, 2*k, x>>(k-1-i)&1 == 1)
		p = with(p, 2*i+1, 2*k, y>>(k-1-i)&1 == 1)
	}
	return p
}

// movedTable returns the table in which each cell has gone to another place.
func movedTable(table []bool, to func(side, x, y int) (int, int)) []bool {
	k := variables(table) / 2
	out := make([]bool, len(table))
	for x := range 1 << k {
		for y := range 1 << k {
			newX, newY := to(1<<k, x, y)
			out[cellAt(k, newX, newY)] = table[cellAt(k, x, y)]
		}
	}
	return out
}

func TestP2_9_Cell(t *testing.T) {
	for k := range 7 {
		seen := map[int]bool{}
		for x := range 1 << k {
			for y := range 1 << k {
				p, e := mask.Cell(k, x, y)
				if p != cellAt(k, x, y) || e != api.OK {
					t.Fatalf("Cell(%d, %d, %d): %d, error %d", k, x, y, p, e)
				}
				seen[p] = true
			}
		}
		if len(seen) != 1<<(2*k) {
			t.Errorf("%d points of a cloth of %d", len(seen), k)
		}
	}
	bad := [][3]int{{-1, 0, 0}, {7, 0, 0}, {64, 0, 0}, {math.MaxInt, 0, 0}, {math.MinInt, 0, 0}, {0, 1, 0}, {0, 0, 1}, {2, -1, 0}, {2, 0, -1}, {2, 4, 0}, {2, 0, 4}, {6, 64, 0}, {6, 0, 64}, {3, math.MinInt, 0}, {3, 0, math.MaxInt}}
	for _, l := range bad {
		if p, e := mask.Cell(l[0], l[1], l[2]); p != 0 || e != api.ErrArg {
			t.Errorf("Cell(%v): %d, error %d", l, p, e)
		}
	}
}

func checkRect(t *testing.T, k, x0, y0, x1, y1 int) {
	t.Helper()
	table := make([]bool, 1<<(2*k))
	for x := x0; x <= x1; x++ {
		for y := y0; y <= y1; y++ {
			table[cellAt(k, x, y)] = true
		}
	}
	f, e := mask.Rect(k, x0, y0, x1, y1)
	wantMask(t, f, e, table, "Rect", k, x0, y0, x1, y1)
}

func TestP2_9_Rect(t *testing.T) {
	for k := range 3 {
		side := 1 << k
		for x0 := range side {
			for y0 := range side {
				for x1 := range side {
					for y1 := range side {
						checkRect(t, k, x0, y0, x1, y1)
					}
				}
			}
		}
	}
	r := rand.New(rand.NewSource(9))
	for range 40 {
		k := 3 + r.Intn(4)
		side := 1 << k
		checkRect(t, k, r.Intn(side), r.Intn(side), r.Intn(side), r.Intn(side))
	}
	checkRect(t, 6, 0, 0, 63, 63)
	checkRect(t, 6, 63, 63, 63, 63)
	checkRect(t, 6, 5, 9, 4, 60)
	checkRect(t, 6, 5, 9, 40, 8)
	bad := [][5]int{{-1, 0, 0, 0, 0}, {7, 0, 0, 0, 0}, {63, 0, 0, 0, 0}, {2, -1, 0, 1, 1}, {2, 0, -1, 1, 1}, {2, 0, 0, -1, 1}, {2, 0, 0, 1, -1}, {2, 4, 0, 1, 1}, {2, 0, 4, 1, 1}, {2, 0, 0, 4, 1}, {2, 0, 0, 1, 4}, {0, 0, 0, 0, 1}, {3, math.MinInt, 0, 0, 0}, {3, 0, 0, math.MaxInt, 7}, {3, 5, 0, 4, 8}}
	for _, l := range bad {
		if f, e := mask.Rect(l[0], l[1], l[2], l[3], l[4]); e != api.ErrArg || !isZero(f) {
			t.Errorf("Rect(%v): %v, error %d", l, f, e)
		}
	}
}

// modulo returns the rest of x that is from 0 to n - 1.
func modulo(x, n int) int {
	return (x%n + n) % n
}

func checkShift(t *testing.T, table []bool, dx, dy int) {
	t.Helper()
	to := func(side, x, y int) (int, int) {
		return modulo(x+modulo(dx, side), side), modulo(y+modulo(dy, side), side)
	}
	f, e := mask.Shift(canonical(table), dx, dy)
	wantMask(t, f, e, movedTable(table, to), "Shift", dx, dy)
}

func TestP2_9_Shift(t *testing.T) {
	for k := range 3 {
		for _, table := range someTables(2 * k) {
			for dx := -5; dx <= 5; dx++ {
				for dy := -5; dy <= 5; dy++ {
					checkShift(t, table, dx, dy)
				}
			}
		}
	}
	r := rand.New(rand.NewSource(10))
	for k := range 7 {
		for _, table := range someTables(2 * k) {
			checkShift(t, table, r.Intn(200)-100, r.Intn(200)-100)
		}
		table := randomTable(r, 2*k, 0.5)
		far := []int{math.MinInt, math.MinInt + 1, -1 << 40, 1<<40 + 1, math.MaxInt - 1, math.MaxInt}
		for _, dx := range far {
			checkShift(t, table, dx, far[r.Intn(len(far))])
			checkShift(t, table, 3, dx)
		}
	}
}

func TestP2_9_Turn(t *testing.T) {
	for k := range 7 {
		for _, table := range someTables(2 * k) {
			f, e := mask.Turn(canonical(table))
			to := func(side, x, y int) (int, int) { return side - 1 - y, x }
			wantMask(t, f, e, movedTable(table, to), "Turn")
		}
	}
}

func TestP2_9_OddVars(t *testing.T) {
	for n := 1; n < 12; n += 2 {
		for _, table := range someTables(n) {
			f := canonical(table)
			if g, e := mask.Shift(f, 0, 0); e != api.ErrArg || !isZero(g) {
				t.Errorf("Shift with %d variables: %v, error %d", n, short(g), e)
			}
			if g, e := mask.Turn(f); e != api.ErrArg || !isZero(g) {
				t.Errorf("Turn with %d variables: %v, error %d", n, short(g), e)
			}
		}
	}
}
