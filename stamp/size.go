package stamp

import "iter"

// size is the width and the height of a stamp.
type size struct{ w, h int }

func sizeOf(s Stamp) size {
	return size{s.W, s.H}
}

func (z size) valid() bool {
	return z.w >= 1 && z.w <= maxSide && z.h >= 1 && z.h <= maxSide
}

// has reports whether m is a move of the size.
func (z size) has(m Move) bool {
	return m.DX >= 0 && m.DX < z.w && m.DY >= 0 && m.DY < z.h && m.Turn >= 0 && m.Turn < 4 && (m.Turn%2 == 0 || z.w == z.h)
}

func (z size) hasAll(l []Move) bool {
	for _, m := range l {
		if !z.has(m) {
			return false
		}
	}
	return true
}

// modulo returns x modulo n, also for x below 0.
func modulo(x, n int) int {
	return (x%n + n) % n
}

// cell returns the index of the cell that a place of the plane has.
func (z size) cell(x, y int) int {
	return modulo(y, z.h)*z.w + modulo(x, z.w)
}

// numbers returns what all numbers of moves are below.
func (z size) numbers() int {
	return 8 * z.w * z.h
}

// number returns a number of a move that rises in the order of moves.
func (z size) number(m Move) int {
	spin := m.Turn
	if m.Flip {
		spin += 4
	}
	return (spin*z.w+m.DX)*z.h + m.DY
}

// numbered returns the move of a number, which has odd turns in some sizes that have none.
func (z size) numbered(n int) Move {
	spin := n / (z.w * z.h)
	return Move{DX: n / z.h % z.w, DY: n % z.h, Turn: spin % 4, Flip: spin >= 4}
}

// moves gives all moves of the size, in order.
func (z size) moves() iter.Seq[Move] {
	return func(yield func(Move) bool) {
		for n := range z.numbers() {
			if m := z.numbered(n); z.has(m) && !yield(m) {
				return
			}
		}
	}
}

// spun returns where the flip and the turns of m take a place of the plane.
func spun(m Move, x, y int) (int, int) {
	if m.Flip {
		x = -x
	}
	for range m.Turn {
		x, y = -y, x
	}
	return x, y
}

// moved returns where m takes a place of the plane.
func moved(m Move, x, y int) (int, int) {
	x, y = spun(m, x, y)
	return x + m.DX, y + m.DY
}

// goals returns the index of the cell to which m takes each cell.
func (z size) goals(m Move) []int {
	to := make([]int, 0, z.w*z.h)
	for y := range z.h {
		for x := range z.w {
			to = append(to, z.cell(moved(m, x, y)))
		}
	}
	return to
}
