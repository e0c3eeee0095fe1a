package exact

import (
	"cmp"
	"math"
	"math/bits"
)

// natural is a number from zero up, its lowest 32 bits first, without a zero at the top. It may be longer than an api.Int, because what leads to a representable result need not be representable itself. The words of a natural are never changed once it is made, so naturals may share them.
type natural []uint32

const wordBits = 32

// trim cuts the zeros at the top, and the room behind them.
func trim(words natural) natural {
	n := len(words)
	for n > 0 && words[n-1] == 0 {
		n--
	}
	if n == 0 {
		return nil
	}
	return words[:n:n]
}

func naturalOf(n uint64) natural {
	return trim(natural{uint32(n), uint32(n >> wordBits)})
}

// twoTo returns 2 to the e-th.
func twoTo(e int) natural {
	power := make(natural, e/wordBits+1)
	power[e/wordBits] = 1 << (e % wordBits)
	return power
}

// word returns word i of the number, also where it has none.
func (a natural) word(i int) uint32 {
	if i < 0 || i >= len(a) {
		return 0
	}
	return a[i]
}

// low returns the lowest 64 bits.
func (a natural) low() uint64 {
	return uint64(a.word(1))<<wordBits | uint64(a.word(0))
}

func (a natural) bits() int {
	if len(a) == 0 {
		return 0
	}
	return (len(a)-1)*wordBits + bits.Len32(a[len(a)-1])
}

func (a natural) compare(b natural) int {
	if len(a) != len(b) {
		return cmp.Compare(len(a), len(b))
	}
	for i := len(a) - 1; i >= 0; i-- {
		if a[i] != b[i] {
			return cmp.Compare(a[i], b[i])
		}
	}
	return 0
}

func (a natural) plus(b natural) natural {
	n := max(len(a), len(b))
	sum := make(natural, n+1)
	var carry uint32
	for i := range n {
		sum[i], carry = bits.Add32(a.word(i), b.word(i), carry)
	}
	sum[n] = carry
	return trim(sum)
}

// minus needs b to be at most a.
func (a natural) minus(b natural) natural {
	rest := make(natural, len(a))
	var borrow uint32
	for i := range a {
		rest[i], borrow = bits.Sub32(a[i], b.word(i), borrow)
	}
	return trim(rest)
}

func (a natural) times(b natural) natural {
	product := make(natural, len(a)+len(b))
	for i, x := range a {
		var carry uint32
		row := product[i : i+len(b)+1 : i+len(b)+1]
		for j, y := range b {
			sum := uint64(x)*uint64(y) + uint64(row[j]) + uint64(carry)
			row[j], carry = uint32(sum), uint32(sum>>wordBits)
		}
		row[len(b)] = carry
	}
	return trim(product)
}

// shiftedUp returns the number times 2^shift, with a word more than a has, be it zero; shift is below 32.
func (a natural) shiftedUp(shift int) natural {
	shifted := make(natural, len(a)+1)
	for i := range shifted {
		shifted[i] = a.word(i)<<shift | a.word(i-1)>>(wordBits-shift)
	}
	return shifted
}

// shiftedDown returns the number divided by 2^shift, rounded down; shift is below 32.
func (a natural) shiftedDown(shift int) natural {
	shifted := make(natural, len(a))
	for i := range shifted {
		shifted[i] = a.word(i)>>shift | a.word(i+1)<<(wordBits-shift)
	}
	return trim(shifted)
}

// divideWord divides by a single word, which is not zero.
func (a natural) divideWord(b uint32) (natural, uint32) {
	quotient := make(natural, len(a))
	var rest uint32
	for i := len(a) - 1; i >= 0; i-- {
		quotient[i], rest = bits.Div32(rest, a[i], b)
	}
	return trim(quotient), rest
}

// divide returns the quotient, rounded down, and the rest; b is not zero. It is long division with words as digits (Knuth's algorithm D).
func (a natural) divide(b natural) (natural, natural) {
	if a.compare(b) < 0 {
		return nil, a
	}
	if len(b) == 1 {
		quotient, rest := a.divideWord(b[0])
		return quotient, naturalOf(uint64(rest))
	}
	// With the top bit of the divisor set, a guessed digit is at most 2 too high.
	shift := bits.LeadingZeros32(b[len(b)-1])
	divisor := trim(b.shiftedUp(shift))
	rest := a.shiftedUp(shift)
	n := len(divisor)
	quotient := make(natural, len(rest)-n)
	for i := len(quotient) - 1; i >= 0; i-- {
		quotient[i] = takeMultiple(rest[i:i+n+1:i+n+1], divisor)
	}
	return trim(quotient), trim(rest).shiftedDown(shift)
}

// takeMultiple subtracts the divisor from the part, which has one word more, as often as possible, and returns how often.
func takeMultiple(part, divisor natural) uint32 {
	n := len(divisor)
	guess := guessDigit(part, divisor)
	var carry uint64
	var borrow uint32
	for i, d := range divisor {
		product := uint64(guess)*uint64(d) + carry
		part[i], borrow = bits.Sub32(part[i], uint32(product), borrow)
		carry = product >> wordBits
	}
	part[n], borrow = bits.Sub32(part[n], uint32(carry), borrow)
	if borrow == 0 {
		return guess
	}
	carry32 := uint32(0)
	for i, d := range divisor {
		part[i], carry32 = bits.Add32(part[i], d, carry32)
	}
	part[n] += carry32
	return guess - 1
}

// guessDigit returns a digit of a quotient, or 1 more, from the top of both numbers.
func guessDigit(part, divisor natural) uint32 {
	n := len(divisor)
	top, next := uint64(divisor[n-1]), uint64(divisor[n-2])
	head := uint64(part[n])<<wordBits | uint64(part[n-1])
	guess, rest := head/top, head%top
	for rest <= math.MaxUint32 && (guess > math.MaxUint32 || guess*next > rest<<wordBits|uint64(part[n-2])) {
		guess--
		rest += top
	}
	return uint32(guess)
}

// power returns a to the n-th, by squaring.
func (a natural) power(n int) natural {
	result := natural{1}
	for i := bits.Len(uint(n)) - 1; i >= 0; i-- {
		result = result.times(result)
		if n>>i&1 == 1 {
			result = result.times(a)
		}
	}
	return result
}

// root returns the k-th root, rounded down. Newton's steps from above the root fall until they have reached it.
func (a natural) root(k int) natural {
	if len(a) == 0 {
		return nil
	}
	less := naturalOf(uint64(k - 1))
	root := twoTo((a.bits() + k - 1) / k)
	for {
		part, _ := a.divide(root.power(k - 1))
		next, _ := root.times(less).plus(part).divideWord(uint32(k))
		if next.compare(root) >= 0 {
			return root
		}
		root = next
	}
}
