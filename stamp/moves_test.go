package stamp_test

import (
	"math/rand"
	"slices"
	"testing"

	"canting/api"
	"canting/stamp"
)

func TestP3_1_Valid(t *testing.T) {
	r := rand.New(rand.NewSource(31))
	for w := 1; w <= 8; w++ {
		for h := 1; h <= 8; h++ {
			for _, colours := range []int{1, 2, 8} {
				if s := randomStamp(r, w, h, colours); !stamp.Valid(s) {
					t.Errorf("not valid: %v", s)
				}
			}
		}
	}
	for c := -3; c <= 12; c++ {
		for at := range 4 {
			s := stamp.Stamp{W: 2, H: 2, Cells: []int{7, 0, 0, 7}}
			s.Cells[at] = c
			if stamp.Valid(s) != (c >= 0 && c <= 7) {
				t.Errorf("Valid(%v): %v", s, stamp.Valid(s))
			}
		}
	}
	for what, s := range badStamps() {
		if stamp.Valid(s) {
			t.Errorf("valid, with %s: %v", what, s)
		}
	}
}

func TestP3_1_Apply(t *testing.T) {
	r := rand.New(rand.NewSource(32))
	for _, z := range sizes {
		for _, m := range movesOf(z[0], z[1]) {
			s := randomStamp(r, z[0], z[1], 8)
			if got, e := stamp.Apply(m, s); e != api.OK || !same(got, applyOf(m, s)) {
				t.Errorf("Apply(%v, %v): %v, %v", m, s, got, e)
			}
		}
	}
}

// TestP3_1_ApplyByHand follows single cells of a stamp of 3 by 3 cells, and rows of one of 3 by 2.
func TestP3_1_ApplyByHand(t *testing.T) {
	square := stamp.Stamp{W: 3, H: 3, Cells: []int{0, 1, 2, 3, 4, 5, 6, 7, 0}}
	wide := stamp.Stamp{W: 3, H: 2, Cells: []int{1, 2, 3, 4, 5, 6}}
	for _, x := range []struct {
		m    stamp.Move
		s    stamp.Stamp
		want []int
	}{
		{stamp.Move{}, square, []int{0, 1, 2, 3, 4, 5, 6, 7, 0}},
		{stamp.Move{DX: 1}, square, []int{2, 0, 1, 5, 3, 4, 0, 6, 7}},
		{stamp.Move{DY: 1}, square, []int{6, 7, 0, 0, 1, 2, 3, 4, 5}},
		{stamp.Move{Flip: true}, square, []int{0, 2, 1, 3, 5, 4, 6, 0, 7}},
		{stamp.Move{Turn: 1}, square, []int{0, 6, 3, 1, 7, 4, 2, 0, 5}},
		{stamp.Move{Turn: 1, Flip: true}, square, []int{0, 6, 3, 2, 0, 5, 1, 7, 4}},
		{stamp.Move{DX: 2, DY: 1, Turn: 2}, wide, []int{6, 5, 4, 3, 2, 1}},
		{stamp.Move{DX: 2, Flip: true}, wide, []int{3, 2, 1, 6, 5, 4}},
		{stamp.Move{DY: 1, Turn: 2, Flip: true}, wide, []int{4, 5, 6, 1, 2, 3}},
	} {
		if got, e := stamp.Apply(x.m, x.s); e != api.OK || got.W != x.s.W || got.H != x.s.H || !slices.Equal(got.Cells, x.want) {
			t.Errorf("Apply(%v, %v): %v, %v, want %v", x.m, x.s, got, e, x.want)
		}
	}
}

func TestP3_1_Arguments(t *testing.T) {
	for what, s := range badStamps() {
		if got, e := stamp.Apply(stamp.Move{}, s); e != api.ErrArg || !same(got, stamp.Stamp{}) {
			t.Errorf("Apply with %s: %v, %v", what, got, e)
		}
	}
	r := rand.New(rand.NewSource(33))
	for _, z := range sizes {
		s := randomStamp(r, z[0], z[1], 8)
		for _, m := range badMoves(z[0], z[1]) {
			if got, e := stamp.Apply(m, s); e != api.ErrArg || !same(got, stamp.Stamp{}) {
				t.Errorf("Apply(%v, %v): %v, %v", m, s, got, e)
			}
		}
	}
}

// pairs calls try with all pairs of moves of a small size, and with some of a large one.
func pairs(try func(w, h int, a, b stamp.Move)) {
	r := rand.New(rand.NewSource(34))
	for _, z := range append(sizes, [2]int{8, 8}, [2]int{7, 8}) {
		w, h := z[0], z[1]
		all := movesOf(w, h)
		for range 300 {
			try(w, h, all[r.Intn(len(all))], all[r.Intn(len(all))])
		}
		if len(all) <= 32 {
			for _, a := range all {
				for _, b := range all {
					try(w, h, a, b)
				}
			}
		}
	}
}

func TestP3_2_After(t *testing.T) {
	pairs(func(w, h int, a, b stamp.Move) {
		if got, e := stamp.After(w, h, a, b); e != api.OK || got != afterOf(w, h, a, b) {
			t.Errorf("After(%d, %d, %v, %v): %v, %v", w, h, a, b, got, e)
		}
	})
	// First the flip and then the turn, which is not the turn and then the flip.
	flip, turn := stamp.Move{DX: 1, Flip: true}, stamp.Move{Turn: 1}
	if got := must(stamp.After(3, 3, turn, flip)); got != (stamp.Move{DY: 1, Turn: 1, Flip: true}) {
		t.Errorf("the turn after the flip: %v", got)
	}
	if got := must(stamp.After(3, 3, flip, turn)); got != (stamp.Move{DX: 1, Turn: 3, Flip: true}) {
		t.Errorf("the flip after the turn: %v", got)
	}
}

func TestP3_2_Inverse(t *testing.T) {
	pairs(func(w, h int, m, _ stamp.Move) {
		got, e := stamp.Inverse(w, h, m)
		if e != api.OK || !slices.Contains(movesOf(w, h), got) || afterOf(w, h, got, m) != (stamp.Move{}) {
			t.Errorf("Inverse(%d, %d, %v): %v, %v", w, h, m, got, e)
		}
	})
}

func TestP3_2_Moves(t *testing.T) {
	for w := 1; w <= 8; w++ {
		for h := 1; h <= 8; h++ {
			if got, e := stamp.Moves(w, h); e != api.OK || !slices.Equal(got, movesOf(w, h)) {
				t.Errorf("Moves(%d, %d): %v, %v", w, h, got, e)
			}
		}
	}
}

func TestP3_2_Close(t *testing.T) {
	r := rand.New(rand.NewSource(35))
	for _, z := range sizes {
		w, h := z[0], z[1]
		for n := range 17 {
			var l []stamp.Move
			for range n {
				l = append(l, randomMove(r, w, h))
			}
			if n > 3 && len(movesOf(w, h)) > 100 {
				continue // the reference takes too long
			}
			if got, e := stamp.Close(w, h, l); e != api.OK || !slices.Equal(got, closeOf(w, h, l)) {
				t.Errorf("Close(%d, %d, %v): %v, %v", w, h, l, got, e)
			}
		}
		for _, m := range movesOf(w, h) {
			if got, e := stamp.Close(w, h, []stamp.Move{m}); e != api.OK || !slices.Equal(got, closeOf(w, h, []stamp.Move{m})) {
				t.Errorf("Close(%d, %d, %v): %v, %v", w, h, m, got, e)
			}
		}
	}
}

func TestP3_2_CloseByHand(t *testing.T) {
	for _, x := range []struct {
		w, h    int
		l, want []stamp.Move
	}{
		{5, 3, nil, []stamp.Move{{}}},
		{5, 3, []stamp.Move{{}, {}}, []stamp.Move{{}}},
		{4, 1, []stamp.Move{{DX: 3}}, []stamp.Move{{}, {DX: 1}, {DX: 2}, {DX: 3}}},
		{4, 1, []stamp.Move{{DX: 2}, {DX: 2}}, []stamp.Move{{}, {DX: 2}}},
		{8, 8, []stamp.Move{{Turn: 3}}, []stamp.Move{{}, {Turn: 1}, {Turn: 2}, {Turn: 3}}},
		{4, 2, []stamp.Move{{Turn: 2, Flip: true}, {DX: 1, Flip: true}}, []stamp.Move{{}, {DX: 1, Turn: 2}, {DX: 1, Flip: true}, {Turn: 2, Flip: true}}},
		{8, 8, []stamp.Move{{Flip: true}, {DY: 7}, {Turn: 1}}, movesOf(8, 8)},
		{8, 7, []stamp.Move{{Flip: true}, {DY: 3}, {DX: 5}, {Turn: 2}}, movesOf(8, 7)},
		{1, 1, slices.Concat(movesOf(1, 1), movesOf(1, 1)), movesOf(1, 1)},
	} {
		if got, e := stamp.Close(x.w, x.h, x.l); e != api.OK || !slices.Equal(got, x.want) {
			t.Errorf("Close(%d, %d, %v): %v, %v", x.w, x.h, x.l, got, e)
		}
	}
}

func TestP3_2_Sizes(t *testing.T) {
	for _, z := range badSizes {
		w, h := z[0], z[1]
		if m, e := stamp.After(w, h, stamp.Move{}, stamp.Move{}); e != api.ErrArg || m != (stamp.Move{}) {
			t.Errorf("After with %v: %v, %v", z, m, e)
		}
		if m, e := stamp.Inverse(w, h, stamp.Move{}); e != api.ErrArg || m != (stamp.Move{}) {
			t.Errorf("Inverse with %v: %v, %v", z, m, e)
		}
		if l, e := stamp.Moves(w, h); e != api.ErrArg || len(l) != 0 {
			t.Errorf("Moves with %v: %v, %v", z, l, e)
		}
		for _, list := range [][]stamp.Move{nil, {{}}} {
			if l, e := stamp.Close(w, h, list); e != api.ErrArg || len(l) != 0 {
				t.Errorf("Close with %v: %v, %v", z, l, e)
			}
		}
	}
}

func TestP3_2_Arguments(t *testing.T) {
	for _, z := range sizes {
		w, h := z[0], z[1]
		good := stamp.Move{DX: w - 1, Flip: true}
		for _, bad := range badMoves(w, h) {
			for _, l := range [][2]stamp.Move{{good, bad}, {bad, good}, {bad, bad}} {
				if m, e := stamp.After(w, h, l[0], l[1]); e != api.ErrArg || m != (stamp.Move{}) {
					t.Errorf("After(%d, %d, %v): %v, %v", w, h, l, m, e)
				}
				if got, e := stamp.Close(w, h, l[:]); e != api.ErrArg || len(got) != 0 {
					t.Errorf("Close(%d, %d, %v): %v, %v", w, h, l, got, e)
				}
			}
			if m, e := stamp.Inverse(w, h, bad); e != api.ErrArg || m != (stamp.Move{}) {
				t.Errorf("Inverse(%d, %d, %v): %v, %v", w, h, bad, m, e)
			}
		}
		for _, n := range []int{17, 18, 10000} {
			if got, e := stamp.Close(w, h, slices.Repeat([]stamp.Move{good}, n)); e != api.ErrArg || len(got) != 0 {
				t.Errorf("Close(%d, %d) of %d moves: %v, %v", w, h, n, got, e)
			}
		}
		if got, e := stamp.Close(w, h, slices.Repeat([]stamp.Move{good}, 16)); e != api.OK || !slices.Equal(got, closeOf(w, h, []stamp.Move{good})) {
			t.Errorf("Close(%d, %d) of 16 moves: %v, %v", w, h, got, e)
		}
	}
}
