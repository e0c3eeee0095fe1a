package stamp

import (
	"slices"

	"canting/api"
)

// maxMakers is the longest list of which Close makes a group.
const maxMakers = 16

// After returns the move that does b and then a.
func After(w, h int, a, b Move) (Move, api.Errno) {
	z := size{w, h}
	if !z.valid() || !z.has(a) || !z.has(b) {
		return Move{}, api.ErrArg
	}
	return z.after(a, b), api.OK
}

func (z size) after(a, b Move) Move {
	dx, dy := moved(a, b.DX, b.DY)
	turn := b.Turn
	if a.Flip {
		// A flip after turns is the turns the other way round after the flip.
		turn = -turn
	}
	return Move{DX: modulo(dx, z.w), DY: modulo(dy, z.h), Turn: modulo(a.Turn+turn, 4), Flip: a.Flip != b.Flip}
}

// Inverse returns the move that undoes m.
func Inverse(w, h int, m Move) (Move, api.Errno) {
	z := size{w, h}
	if !z.valid() || !z.has(m) {
		return Move{}, api.ErrArg
	}
	return z.inverse(m), api.OK
}

func (z size) inverse(m Move) Move {
	back := Move{Turn: m.Turn, Flip: m.Flip}
	if !m.Flip {
		// With a flip it is a mirror, which undoes itself.
		back.Turn = modulo(-m.Turn, 4)
	}
	dx, dy := spun(back, m.DX, m.DY)
	back.DX, back.DY = modulo(-dx, z.w), modulo(-dy, z.h)
	return back
}

// Moves returns all moves of a size.
func Moves(w, h int) ([]Move, api.Errno) {
	z := size{w, h}
	if !z.valid() {
		return nil, api.ErrArg
	}
	return slices.Collect(z.moves()), api.OK
}

// Close returns the least group that has some moves.
func Close(w, h int, l []Move) ([]Move, api.Errno) {
	z := size{w, h}
	if !z.valid() || len(l) > maxMakers || !z.hasAll(l) {
		return nil, api.ErrArg
	}
	return z.closed(l), api.OK
}

// closed returns the least group that has some moves, in order.
func (z size) closed(l []Move) []Move {
	var makers []Move
	group := z.madeOf(makers)
	for _, m := range l {
		// A maker that is new makes the group twice as large at least: there are few of them, however long l is.
		if !group[z.number(m)] {
			makers = append(makers, m)
			group = z.madeOf(makers)
		}
	}
	var out []Move
	for n, in := range group {
		if in {
			out = append(out, z.numbered(n))
		}
	}
	return out
}

// madeOf tells by its number of each move whether the makers, one after another, make it. These moves are a group: as there are finitely many, some power of each maker is its inverse.
func (z size) madeOf(makers []Move) []bool {
	in := make([]bool, z.numbers())
	in[0] = true
	found := []Move{{}}
	for len(found) > 0 {
		last := found[len(found)-1]
		found = found[:len(found)-1]
		for _, maker := range makers {
			m := z.after(maker, last)
			if n := z.number(m); !in[n] {
				in[n] = true
				found = append(found, m)
			}
		}
	}
	return in
}

// hasGroup reports whether the size is valid and g is a group of it.
func (z size) hasGroup(g []Move) bool {
	if !z.valid() {
		return false
	}
	last := -1
	for _, m := range g {
		if !z.has(m) || z.number(m) <= last {
			return false
		}
		last = z.number(m)
	}
	return len(z.closed(g)) == len(g)
}
