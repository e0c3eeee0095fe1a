package bath

import (
	"iter"
	"strings"

	"canting/api"
)

const (
	// letters are the baths of which words consist, in order.
	letters = "abcdefgh"
	// maxWords is the largest number of words.
	maxWords = 4
	// maxWord is the length of the longest word.
	maxWord = 8
	// maxText is the length of the longest string that Covers takes.
	maxText = 40
)

// areLetters reports whether s has at most so many bytes, all letters.
func areLetters(s string, most int) bool {
	return len(s) <= most && strings.Trim(s, letters) == ""
}

func areWords(l []string) bool {
	if len(l) < 1 || len(l) > maxWords {
		return false
	}
	for _, w := range l {
		if !areLetters(w, maxWord) {
			return false
		}
	}
	return true
}

// grid are words whose positions have numbers.
type grid []string

// size returns how many positions there are.
func (g grid) size() int {
	n := 1
	for _, w := range g {
		n *= len(w) + 1
	}
	return n
}

// last returns the number of the position at the end of all words.
func (g grid) last() int {
	return g.size() - 1
}

// moved returns the number of the position that a letter leads to: the same one if it moves no word.
func (g grid) moved(number int, letter byte) int {
	to, unit, left := number, 1, number
	for _, w := range g {
		at := left % (len(w) + 1)
		if at < len(w) && w[at] == letter {
			to += unit
		}
		left /= len(w) + 1
		unit *= len(w) + 1
	}
	return to
}

// moves gives the letters that move a word at a position, in order, and the positions that they lead to.
func (g grid) moves(number int) iter.Seq2[byte, int] {
	return func(yield func(byte, int) bool) {
		for i := range len(letters) {
			to := g.moved(number, letters[i])
			if to != number && !yield(letters[i], to) {
				return
			}
		}
	}
}

// Covers reports whether s covers all words.
func Covers(s string, l []string) (bool, api.Errno) {
	if !areWords(l) || !areLetters(s, maxText) {
		return false, api.ErrArg
	}
	g := grid(l)
	at := 0
	for i := range len(s) {
		at = g.moved(at, s[i])
	}
	return at == g.last(), api.OK
}

// rest tells of the shortest strings that cover what is left of all words.
type rest struct {
	first string
	count int
}

// rests keeps what is left from each position on. In a shortest string each letter moves a word, so each such string is a way of its own to the last position.
func (g grid) rests() *keeper[rest] {
	return keep(g.size(), func(of func(int) rest, number int) rest {
		if number == g.last() {
			return rest{"", 1}
		}
		var best rest
		for letter, to := range g.moves(number) {
			next := of(to)
			switch {
			case best.count == 0 || len(next.first)+1 < len(best.first):
				best = rest{string(letter) + next.first, next.count}
			case len(next.first)+1 == len(best.first):
				best.count += next.count
			}
		}
		return best
	})
}

// Shortest returns the first shortest string that covers all words.
func Shortest(l []string) (string, api.Errno) {
	if !areWords(l) {
		return "", api.ErrArg
	}
	return grid(l).rests().of(0).first, api.OK
}

// Count returns how many shortest strings cover all words.
func Count(l []string) (int, api.Errno) {
	if !areWords(l) {
		return 0, api.ErrArg
	}
	return grid(l).rests().of(0).count, api.OK
}

// Table returns how much is still needed from each position on.
func Table(l []string) ([]int, api.Errno) {
	if !areWords(l) {
		return nil, api.ErrArg
	}
	g := grid(l)
	rests := g.rests()
	t := make([]int, g.size())
	for number := range t {
		t[number] = len(rests.of(number).first)
	}
	return t, api.OK
}

// Bound returns what a table proves, and whether it is sound.
func Bound(l []string, t []int) (int, bool, api.Errno) {
	if !areWords(l) {
		return 0, false, api.ErrArg
	}
	g := grid(l)
	if len(t) != g.size() {
		return 0, false, api.ErrSize
	}
	if !areBetween(t, -maxElement, maxElement) {
		return 0, false, api.ErrArg
	}
	return t[0], g.isSound(t), api.OK
}

// isSound reports whether a table with an element for each position is sound.
func (g grid) isSound(t []int) bool {
	for number, element := range t {
		for _, to := range g.moves(number) {
			if element > t[to]+1 {
				return false
			}
		}
	}
	return t[g.last()] <= 0
}

// Common returns the first longest string that two words cover.
func Common(u, v string) (string, api.Errno) {
	if !areLetters(u, maxWord) || !areLetters(v, maxWord) {
		return "", api.ErrArg
	}
	rows := len(u) + 1
	longest := keep(rows*(len(v)+1), func(of func(int) string, number int) string {
		i, j := number%rows, number/rows
		best := ""
		for k := range len(letters) {
			a, b := strings.IndexByte(u[i:], letters[k]), strings.IndexByte(v[j:], letters[k])
			if a < 0 || b < 0 {
				continue
			}
			found := letters[k:k+1] + of(i+a+1+rows*(j+b+1))
			if len(found) > len(best) {
				best = found
			}
		}
		return best
	})
	return longest.of(0), api.OK
}
