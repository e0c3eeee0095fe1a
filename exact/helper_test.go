package exact_test

import (
	"math/big"
	"math/rand"
	"slices"
	"strings"
	"testing"

	"canting/api"
	"canting/exact"
)

// The tests compare package exact with math/big, and only through the exported functions.

// sized makes an Int of words, without making it valid.
func sized(negative bool, words ...uint32) api.Int {
	return api.Int{Neg: negative, Words: words}
}

// fromBig returns the Int of any number, also of one that is too long.
func fromBig(b *big.Int) api.Int {
	a := api.Int{Neg: b.Sign() < 0}
	rest := new(big.Int).Abs(b)
	word := new(big.Int)
	mask := big.NewInt(1<<32 - 1)
	for rest.Sign() != 0 {
		a.Words = append(a.Words, uint32(word.And(rest, mask).Uint64()))
		rest.Rsh(rest, 32)
	}
	return a
}

func toBig(a api.Int) *big.Int {
	b := new(big.Int)
	for i := len(a.Words) - 1; i >= 0; i-- {
		b.Lsh(b, 32)
		b.Add(b, big.NewInt(int64(a.Words[i])))
	}
	if a.Neg {
		b.Neg(b)
	}
	return b
}

func fromBigRat(f *big.Rat) api.Rat {
	return api.Rat{Num: fromBig(f.Num()), Den: fromBig(f.Denom())}
}

func toBigRat(f api.Rat) *big.Rat {
	return new(big.Rat).SetFrac(toBig(f.Num), toBig(f.Den))
}

func same(a, b api.Int) bool {
	return a.Neg == b.Neg && slices.Equal(a.Words, b.Words)
}

func sameRat(f, g api.Rat) bool {
	return same(f.Num, g.Num) && same(f.Den, g.Den)
}

func sameRow(r, s []api.Rat) bool {
	return slices.EqualFunc(r, s, sameRat)
}

func sameRows(m, n [][]api.Rat) bool {
	return slices.EqualFunc(m, n, sameRow)
}

// zeroInt and zeroRat tell whether a result is the zero value that belongs to an error.
func zeroInt(a api.Int) bool { return !a.Neg && len(a.Words) == 0 }
func zeroRat(f api.Rat) bool { return zeroInt(f.Num) && zeroInt(f.Den) }

func representable(b *big.Int) bool {
	return b.BitLen() <= 32*api.MaxWords
}

func wantInt(t *testing.T, what string, got api.Int, e api.Errno, want *big.Int) {
	t.Helper()
	if !representable(want) {
		if e != api.ErrRange || !zeroInt(got) {
			t.Errorf("%s: got %v, error %d; want ErrRange", what, got, e)
		}
		return
	}
	if e != api.OK || !same(got, fromBig(want)) {
		t.Errorf("%s: got %v, error %d; want %v", what, got, e, want)
	}
}

func wantRat(t *testing.T, what string, got api.Rat, e api.Errno, want *big.Rat) {
	t.Helper()
	if !representable(want.Num()) || !representable(want.Denom()) {
		if e != api.ErrRange || !zeroRat(got) {
			t.Errorf("%s: got %v, error %d; want ErrRange", what, got, e)
		}
		return
	}
	if e != api.OK || !sameRat(got, fromBigRat(want)) {
		t.Errorf("%s: got %v, error %d; want %v", what, got, e, want)
	}
}

// number reads a number of any length.
func number(s string) *big.Int {
	b, ok := new(big.Int).SetString(s, 10)
	if !ok {
		panic(s)
	}
	return b
}

func whole(s string) api.Int {
	return fromBig(number(s))
}

func rational(s string) api.Rat {
	f, ok := new(big.Rat).SetString(s)
	if !ok {
		panic(s)
	}
	return fromBigRat(f)
}

// row reads fractions with blanks between them.
func row(s string) []api.Rat {
	var out []api.Rat
	for _, f := range strings.Fields(s) {
		out = append(out, rational(f))
	}
	return out
}

// matrix reads rows with semicolons between them.
func matrix(s string) [][]api.Rat {
	var out [][]api.Rat
	for _, r := range strings.Split(s, ";") {
		out = append(out, row(r))
	}
	return out
}

func power(base int64, n int) *big.Int {
	return new(big.Int).Exp(big.NewInt(base), big.NewInt(int64(n)), nil)
}

func plus(b *big.Int, n int64) *big.Int {
	return new(big.Int).Add(b, big.NewInt(n))
}

func negated(b *big.Int) *big.Int {
	return new(big.Int).Neg(b)
}

// largest returns 2^8192 - 1, the greatest representable number.
func largest() *big.Int {
	return plus(power(2, 8192), -1)
}

// randomBig returns a number of exactly n words; many of them are words at which carries and guesses go wrong.
func randomBig(r *rand.Rand, n int) *big.Int {
	edges := []uint32{0, 1, 2, 1<<31 - 1, 1 << 31, 1<<31 + 1, 1<<32 - 2, 1<<32 - 1}
	plain := r.Intn(2) == 0
	a := api.Int{}
	for range n {
		w := r.Uint32()
		if !plain && r.Intn(4) > 0 {
			w = edges[r.Intn(len(edges))]
		}
		a.Words = append(a.Words, w)
	}
	if n > 0 && a.Words[n-1] == 0 {
		a.Words[n-1] = 1
	}
	return toBig(a)
}

// samples returns numbers of both signs: small ones, ones at the ends of words, and long ones.
func samples() []*big.Int {
	r := rand.New(rand.NewSource(1))
	out := []*big.Int{big.NewInt(0)}
	add := func(b *big.Int) {
		out = append(out, b, negated(b))
	}
	for _, n := range []int64{1, 2, 3, 6, 7, 12, 97, 999_999_999, 1_000_000_000} {
		add(big.NewInt(n))
	}
	for _, e := range []int{31, 32, 63, 64, 96, 4096, 8160} {
		add(power(2, e))
		add(plus(power(2, e), -1))
	}
	add(plus(power(2, 32), 1))
	add(power(2, 8191))
	add(largest())
	for _, n := range []int{1, 2, 3, 4, 5, 9, 40, 128, 129, 255, 256} {
		add(randomBig(r, n))
	}
	return out
}

// badInts returns Ints that are not valid.
func badInts() []api.Int {
	long := make([]uint32, api.MaxWords+1)
	long[api.MaxWords] = 1
	return []api.Int{
		sized(true),
		sized(true, []uint32{}...),
		{Neg: true, Words: []uint32{}},
		sized(false, 0),
		sized(true, 0),
		sized(false, 1, 0),
		sized(true, 0, 1, 0),
		{Words: make([]uint32, api.MaxWords)},
		{Words: long},
		{Neg: true, Words: long},
		{Words: make([]uint32, 1_000_000)},
	}
}

// badRats returns Rats that are not valid.
func badRats() []api.Rat {
	one := sized(false, 1)
	out := []api.Rat{
		{},
		{Num: one},
		{Num: one, Den: sized(true, 1)},
		{Num: sized(false, 2), Den: sized(false, 4)},
		{Num: sized(true, 2), Den: sized(false, 4)},
		{Num: api.Int{}, Den: sized(false, 2)},
		{Num: sized(false, 3), Den: sized(true, 2)},
		{Num: fromBig(largest()), Den: fromBig(largest())},
		{Num: fromBig(power(6, 3000)), Den: fromBig(power(10, 2000))},
		{Num: sized(false, 0, 0, 0, 2), Den: sized(false, 0, 0, 2)},
	}
	for _, a := range badInts() {
		out = append(out, api.Rat{Num: a, Den: one}, api.Rat{Num: one, Den: a})
	}
	return out
}

var signatures = struct {
	valid    func(api.Int) bool
	fromInt  func(int) api.Int
	toInt    func(api.Int) (int, api.Errno)
	print    func(api.Int) (string, api.Errno)
	parse    func(string) (api.Int, api.Errno)
	cmp      func(a, b api.Int) (int, api.Errno)
	ints     [4]func(a, b api.Int) (api.Int, api.Errno)
	div      func(a, b api.Int) (q, r api.Int, e api.Errno)
	ext      func(a, b api.Int) (g, x, y api.Int, e api.Errno)
	powers   [2]func(a api.Int, n int) (api.Int, api.Errno)
	bits     func(api.Int) (int, api.Errno)
	validRat func(api.Rat) bool
	newRat   func(num, den api.Int) (api.Rat, api.Errno)
	ratCmp   func(f, g api.Rat) (int, api.Errno)
	rats     [4]func(f, g api.Rat) (api.Rat, api.Errno)
	ratFloor func(api.Rat) (api.Int, api.Errno)
	ratPrint func(api.Rat) (string, api.Errno)
	ratParse func(string) (api.Rat, api.Errno)
	rref     func([][]api.Rat) ([][]api.Rat, []int, api.Errno)
	det      func([][]api.Rat) (api.Rat, api.Errno)
	inverse  func([][]api.Rat) ([][]api.Rat, api.Errno)
	solve    func([][]api.Rat, []api.Rat) ([]api.Rat, api.Errno)
	kernel   func([][]api.Rat) ([][]api.Rat, api.Errno)
}{
	exact.Valid, exact.FromInt, exact.ToInt, exact.Print, exact.Parse, exact.Cmp,
	[4]func(a, b api.Int) (api.Int, api.Errno){exact.Add, exact.Sub, exact.Mul, exact.Gcd},
	exact.Div, exact.Ext,
	[2]func(a api.Int, n int) (api.Int, api.Errno){exact.Pow, exact.Root},
	exact.Bits, exact.ValidRat, exact.NewRat, exact.RatCmp,
	[4]func(f, g api.Rat) (api.Rat, api.Errno){exact.RatAdd, exact.RatSub, exact.RatMul, exact.RatDiv},
	exact.RatFloor, exact.RatPrint, exact.RatParse,
	exact.Rref, exact.Det, exact.Inverse, exact.Solve, exact.Kernel,
}
