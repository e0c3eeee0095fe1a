package exact_test

import (
	"fmt"
	"math"
	"math/big"
	"math/rand"
	"slices"
	"strings"
	"testing"

	"canting/api"
	"canting/exact"
)

func TestP1_1_Valid(t *testing.T) {
	for _, b := range samples() {
		if !exact.Valid(fromBig(b)) {
			t.Errorf("Valid(%v) is false", b)
		}
	}
	for _, a := range []api.Int{{}, {Words: []uint32{}}, sized(true, 0, 1), sized(false, math.MaxUint32)} {
		if !exact.Valid(a) {
			t.Errorf("Valid(%v) is false", a)
		}
	}
	for _, a := range badInts() {
		if exact.Valid(a) {
			t.Errorf("Valid is true of %v with %d words", a.Neg, len(a.Words))
		}
	}
}

func TestP1_1_FromIntToInt(t *testing.T) {
	ints := []int{0, 1, -1, 7, -7, math.MaxInt, math.MinInt, math.MaxInt - 1, math.MinInt + 1,
		math.MaxInt32, math.MinInt32, math.MaxUint32, -math.MaxUint32, 1 << 32, -(1 << 32), 1<<32 + 1, 1 << 62}
	for _, n := range ints {
		a := exact.FromInt(n)
		if !same(a, fromBig(big.NewInt(int64(n)))) {
			t.Errorf("FromInt(%d) = %v", n, a)
		}
		if m, e := exact.ToInt(a); m != n || e != api.OK {
			t.Errorf("ToInt(FromInt(%d)) = %d, %d", n, m, e)
		}
	}
	if a := exact.FromInt(-4294967296); !a.Neg || !slices.Equal(a.Words, []uint32{0, 1}) {
		t.Errorf("FromInt(-4294967296) = %v", a)
	}
}

func TestP1_1_ToIntErrors(t *testing.T) {
	for _, s := range []string{"9223372036854775808", "-9223372036854775809", "18446744073709551615",
		"-18446744073709551615", "18446744073709551616", "-18446744073709551616", "18446744073709551617"} {
		if n, e := exact.ToInt(whole(s)); n != 0 || e != api.ErrRange {
			t.Errorf("ToInt(%s) = %d, %d", s, n, e)
		}
	}
	if n, e := exact.ToInt(fromBig(largest())); n != 0 || e != api.ErrRange {
		t.Errorf("ToInt of the greatest = %d, %d", n, e)
	}
	for _, a := range badInts() {
		if n, e := exact.ToInt(a); n != 0 || e != api.ErrArg {
			t.Errorf("ToInt(%v) = %d, %d", len(a.Words), n, e)
		}
	}
}

func TestP1_2_PrintParse(t *testing.T) {
	numbers := samples()
	for e := range 40 {
		numbers = append(numbers, power(10, e), plus(power(10, e), -1), plus(power(10, e), 1), negated(power(10, e)))
	}
	numbers = append(numbers, number("1000000000000000000000000001"), number("-5000000007000000000"), power(10, 2466))
	for _, b := range numbers {
		s, e := exact.Print(fromBig(b))
		if s != b.String() || e != api.OK {
			t.Errorf("Print(%v) = %s, %d", b, s, e)
		}
		a, e := exact.Parse(b.String())
		wantInt(t, "Parse("+b.String()+")", a, e, b)
	}
	if s, e := exact.Print(api.Int{}); s != "0" || e != api.OK {
		t.Errorf("Print(0) = %q, %d", s, e)
	}
	if s, _ := exact.Print(sized(true, 0, 1)); s != "-4294967296" {
		t.Errorf("Print(-2^32) = %q", s)
	}
}

func TestP1_2_PrintParseErrors(t *testing.T) {
	bad := []string{"", "-", "+", "-0", "+0", "+1", "007", "00", "01", "-01", "-00", "--1", "-+1", "1-", " 1", "1 ",
		"1\n", "0x1", "1_0", "1e3", "1.0", "1,000", "a", "12a4", "a123", "123:", "12/", "1/1", "\x00", "1\x00",
		"\uff11", "\u22121", "1\xff", "12345678901234567890x", "x12345678901234567890",
		power(2, 8192).String(), negated(power(2, 8192)).String(), power(10, 2467).String(),
		strings.Repeat("9", 2467), strings.Repeat("9", 2500), strings.Repeat("9", 2501), "-" + strings.Repeat("1", 2501),
		"0" + largest().String(), strings.Repeat("0", 3000), strings.Repeat("7", 1_000_000)}
	for _, s := range bad {
		if a, e := exact.Parse(s); !zeroInt(a) || e != api.ErrForm {
			t.Errorf("Parse(%.30q) with %d bytes = %v, %d", s, len(s), a, e)
		}
	}
	for _, a := range badInts() {
		if s, e := exact.Print(a); s != "" || e != api.ErrArg {
			t.Errorf("Print of a bad Int = %q, %d", s, e)
		}
	}
}

func TestP1_3_CmpAddSubMul(t *testing.T) {
	for _, x := range samples() {
		for _, y := range samples() {
			a, b := fromBig(x), fromBig(y)
			if c, e := exact.Cmp(a, b); c != x.Cmp(y) || e != api.OK {
				t.Errorf("Cmp(%v, %v) = %d, %d", x, y, c, e)
			}
			sum, e := exact.Add(a, b)
			wantInt(t, fmt.Sprint("Add ", x, " ", y), sum, e, new(big.Int).Add(x, y))
			difference, e := exact.Sub(a, b)
			wantInt(t, fmt.Sprint("Sub ", x, " ", y), difference, e, new(big.Int).Sub(x, y))
			product, e := exact.Mul(a, b)
			wantInt(t, fmt.Sprint("Mul ", x, " ", y), product, e, new(big.Int).Mul(x, y))
		}
	}
}

func TestP1_3_Range(t *testing.T) {
	top, one := fromBig(largest()), exact.FromInt(1)
	bottom, minus := fromBig(negated(largest())), exact.FromInt(-1)
	half := fromBig(power(2, 4096))
	below := plus(power(2, 4096), -1)
	for i, e := range []api.Errno{
		second(exact.Add(top, one)), second(exact.Add(bottom, minus)), second(exact.Sub(top, minus)),
		second(exact.Sub(bottom, one)), second(exact.Mul(top, exact.FromInt(2))), second(exact.Mul(half, half)),
		second(exact.Mul(top, top)), second(exact.Add(top, top)),
	} {
		if e != api.ErrRange {
			t.Errorf("call %d: error %d", i, e)
		}
	}
	sum, e := exact.Add(top, minus)
	wantInt(t, "Add", sum, e, plus(largest(), -1))
	difference, e := exact.Sub(bottom, bottom)
	wantInt(t, "Sub", difference, e, new(big.Int))
	product, e := exact.Mul(fromBig(below), fromBig(below))
	wantInt(t, "Mul", product, e, new(big.Int).Mul(below, below))
}

func second[T any](_ T, e api.Errno) api.Errno {
	return e
}

func TestP1_3_Arguments(t *testing.T) {
	good := exact.FromInt(3)
	for _, bad := range badInts() {
		for _, p := range [][2]api.Int{{bad, good}, {good, bad}, {bad, bad}} {
			if c, e := exact.Cmp(p[0], p[1]); c != 0 || e != api.ErrArg {
				t.Errorf("Cmp = %d, %d", c, e)
			}
			for i, call := range signatures.ints {
				if a, e := call(p[0], p[1]); !zeroInt(a) || e != api.ErrArg {
					t.Errorf("call %d = %v, %d", i, a, e)
				}
			}
		}
	}
}

// checkDiv compares with the quotient and rest of Euclid's division in math/big, which has the same rule.
func checkDiv(t *testing.T, x, y *big.Int) {
	t.Helper()
	q, r, e := exact.Div(fromBig(x), fromBig(y))
	if y.Sign() == 0 {
		if !zeroInt(q) || !zeroInt(r) || e != api.ErrZero {
			t.Errorf("Div(%v, 0) = %v, %v, %d", x, q, r, e)
		}
		return
	}
	wantQ, wantR := new(big.Int).DivMod(x, y, new(big.Int))
	wantInt(t, fmt.Sprint("quotient of ", x, " ", y), q, e, wantQ)
	wantInt(t, fmt.Sprint("rest of ", x, " ", y), r, e, wantR)
}

func TestP1_4_Div(t *testing.T) {
	for _, x := range [][4]int64{{-7, 2, -4, 1}, {7, -2, -3, 1}, {-7, -2, 4, 1}, {7, 2, 3, 1}, {-6, 2, -3, 0}, {0, -5, 0, 0}, {-1, 5, -1, 4}, {-1, -5, 1, 4}, {1, -5, 0, 1}} {
		q, r, e := exact.Div(fromBig(big.NewInt(x[0])), fromBig(big.NewInt(x[1])))
		wantInt(t, fmt.Sprint("quotient", x), q, e, big.NewInt(x[2]))
		wantInt(t, fmt.Sprint("rest", x), r, e, big.NewInt(x[3]))
	}
	for _, x := range samples() {
		for _, y := range samples() {
			checkDiv(t, x, y)
		}
	}
}

// TestP1_4_DivDigits has numbers for which a guess of long division is too high, once or twice.
func TestP1_4_DivDigits(t *testing.T) {
	const top, ones = 1 << 31, 1<<32 - 1
	for _, p := range [][2][]uint32{
		{{0, 0, top, top - 1}, {1, 0, top}},
		{{0, ones - 1, top}, {ones, top}},
		{{3, 0, top}, {1, 0, 1 << 29}},
		{{0, 0, 0, top}, {ones, 0, top}},
		{{0, 0, 0, 1}, {1, 1}},
		{{ones, ones, ones, ones}, {ones, ones}},
		{{0, ones, ones - 1}, {ones, ones}},
		{{0, 0, 1}, {ones, ones}},
	} {
		checkDiv(t, toBig(sized(false, p[0]...)), toBig(sized(false, p[1]...)))
	}
	r := rand.New(rand.NewSource(2))
	for range 20000 {
		b := randomBig(r, 1+r.Intn(5))
		a := randomBig(r, 1+r.Intn(8))
		if r.Intn(2) == 0 { // nearly a multiple, or one
			a.Mul(a, b)
			a.Add(a, big.NewInt(int64(r.Intn(3)-1)))
		}
		checkDiv(t, a, b)
	}
}

func TestP1_4_DivErrors(t *testing.T) {
	for _, bad := range badInts() {
		for _, p := range [][2]api.Int{{bad, exact.FromInt(3)}, {exact.FromInt(3), bad}, {bad, {}}} {
			if q, r, e := exact.Div(p[0], p[1]); !zeroInt(q) || !zeroInt(r) || e != api.ErrArg {
				t.Errorf("Div = %v, %v, %d", q, r, e)
			}
		}
	}
}

func checkGcd(t *testing.T, x, y *big.Int) {
	t.Helper()
	want := new(big.Int).GCD(nil, nil, new(big.Int).Abs(x), new(big.Int).Abs(y))
	got, e := exact.Gcd(fromBig(x), fromBig(y))
	wantInt(t, fmt.Sprint("Gcd ", x, " ", y), got, e, want)
	checkExt(t, x, y, want)
}

// checkExt checks what makes x and y the only ones.
func checkExt(t *testing.T, a, b, want *big.Int) {
	t.Helper()
	what := fmt.Sprint("Ext ", a, " ", b)
	g, x, y, e := exact.Ext(fromBig(a), fromBig(b))
	wantInt(t, what, g, e, want)
	if !exact.Valid(x) || !exact.Valid(y) {
		t.Fatalf("%s: %v, %v is not valid", what, x, y)
	}
	if b.Sign() == 0 {
		wantInt(t, what, x, e, big.NewInt(int64(a.Sign())))
		wantInt(t, what, y, e, new(big.Int))
		return
	}
	sum := new(big.Int).Mul(a, toBig(x))
	sum.Add(sum, new(big.Int).Mul(b, toBig(y)))
	if sum.Cmp(want) != 0 {
		t.Errorf("%s: a·x + b·y = %v", what, sum)
	}
	limit := new(big.Int).Quo(new(big.Int).Abs(b), want)
	if x.Neg || toBig(x).Cmp(limit) >= 0 {
		t.Errorf("%s: x = %v is not below %v", what, toBig(x), limit)
	}
}

func TestP1_5_GcdExt(t *testing.T) {
	for _, x := range samples() {
		for _, y := range samples() {
			checkGcd(t, x, y)
		}
	}
	for _, x := range [][5]int{{6, 4, 2, 1, -1}, {4, 6, 2, 2, -1}, {-3, 0, 3, -1, 0}, {3, 0, 3, 1, 0}, {0, 0, 0, 0, 0}, {0, -5, 5, 0, -1}, {0, 5, 5, 0, 1}, {-4, 6, 2, 1, 1}, {4, -6, 2, 2, 1}, {-4, -6, 2, 1, -1}, {7, 1, 1, 0, 1}, {7, -1, 1, 0, -1}, {5, 5, 5, 0, 1}} {
		g, a, b, e := exact.Ext(exact.FromInt(x[0]), exact.FromInt(x[1]))
		if !same(g, exact.FromInt(x[2])) || !same(a, exact.FromInt(x[3])) || !same(b, exact.FromInt(x[4])) || e != api.OK {
			t.Errorf("Ext(%d, %d) = %v, %v, %v, %d", x[0], x[1], g, a, b, e)
		}
	}
}

// TestP1_5_GcdSteps has common divisors, quotients that are all 1, and numbers that differ much in length.
func TestP1_5_GcdSteps(t *testing.T) {
	r := rand.New(rand.NewSource(3))
	for range 1500 {
		common := randomBig(r, 1+r.Intn(6))
		x, y := randomBig(r, r.Intn(9)), randomBig(r, r.Intn(9))
		checkGcd(t, x.Mul(x, common), y.Mul(y, common))
		checkGcd(t, randomBig(r, 1+r.Intn(60)), negated(randomBig(r, 1+r.Intn(4))))
	}
	x, y := big.NewInt(1), big.NewInt(1)
	for representable(x) {
		x, y = new(big.Int).Add(x, y), x
		if x.BitLen()%61 == 0 || x.BitLen() < 130 || x.BitLen() == 8192 {
			if representable(x) {
				checkGcd(t, x, y)
			}
		}
	}
	checkGcd(t, largest(), plus(largest(), -1))
	checkGcd(t, power(6, 3000), power(10, 2400))
}

func TestP1_5_Arguments(t *testing.T) {
	for _, bad := range badInts() {
		for _, p := range [][2]api.Int{{bad, exact.FromInt(3)}, {exact.FromInt(3), bad}, {bad, {}}} {
			if g, x, y, e := exact.Ext(p[0], p[1]); !zeroInt(g) || !zeroInt(x) || !zeroInt(y) || e != api.ErrArg {
				t.Errorf("Ext = %v, %v, %v, %d", g, x, y, e)
			}
			if g, e := exact.Gcd(p[0], p[1]); !zeroInt(g) || e != api.ErrArg {
				t.Errorf("Gcd = %v, %d", g, e)
			}
		}
	}
}

func checkPow(t *testing.T, x *big.Int, n int) {
	t.Helper()
	got, e := exact.Pow(fromBig(x), n)
	wantInt(t, fmt.Sprint("Pow ", x, " ", n), got, e, new(big.Int).Exp(x, big.NewInt(int64(n)), nil))
}

func TestP1_6_Pow(t *testing.T) {
	for _, base := range []int64{-10, -3, -2, -1, 0, 1, 2, 3, 5, 7, 10, 1000, 1 << 31, 1<<32 - 1, 1 << 32, 1<<32 + 1} {
		for _, n := range []int{0, 1, 2, 3, 4, 5, 31, 32, 33, 64, 100, 255, 256, 257, 1000, 9999, 10000} {
			checkPow(t, big.NewInt(base), n)
		}
	}
	// The last power that is representable, and the next one.
	for base := int64(2); base < 40; base++ {
		n := 1
		for representable(power(base, n+1)) {
			n++
		}
		for _, sign := range []int64{1, -1} {
			checkPow(t, big.NewInt(sign*base), n)
			checkPow(t, big.NewInt(sign*base), n+1)
		}
	}
	for _, k := range []int{2, 4, 16, 64, 128, 256} {
		edge := power(2, 8192/k)
		checkPow(t, edge, k)
		checkPow(t, edge, k-1)
		checkPow(t, plus(edge, -1), k)
		checkPow(t, plus(edge, 1), k)
	}
	p, e := exact.Pow(exact.FromInt(2), 8191)
	if len(p.Words) != 256 || p.Words[255] != 1<<31 || e != api.OK {
		t.Errorf("Pow(2, 8191): %d words, error %d", len(p.Words), e)
	}
}

func TestP1_6_PowErrors(t *testing.T) {
	for _, n := range []int{-1, 10001, math.MinInt, math.MaxInt} {
		for _, a := range []api.Int{{}, exact.FromInt(1), exact.FromInt(-2), fromBig(largest())} {
			if p, e := exact.Pow(a, n); !zeroInt(p) || e != api.ErrArg {
				t.Errorf("Pow(%v, %d) = %v, %d", a, n, p, e)
			}
		}
	}
	for _, a := range badInts() {
		for _, n := range []int{-1, 0, 1, 2, 10000} {
			if p, e := exact.Pow(a, n); !zeroInt(p) || e != api.ErrArg {
				t.Errorf("Pow of a bad Int, %d = %v, %d", n, p, e)
			}
		}
	}
	for _, n := range []int{2, 10000} {
		if p, e := exact.Pow(fromBig(largest()), n); !zeroInt(p) || e != api.ErrRange {
			t.Errorf("Pow of the greatest, %d = %v, %d", n, p, e)
		}
	}
}

// bigRoot finds the root bit by bit.
func bigRoot(a *big.Int, k int) *big.Int {
	root := new(big.Int)
	for i := a.BitLen()/k + 1; i >= 0; i-- {
		root.SetBit(root, i, 1)
		if new(big.Int).Exp(root, big.NewInt(int64(k)), nil).Cmp(a) > 0 {
			root.SetBit(root, i, 0)
		}
	}
	return root
}

func TestP1_6_Root(t *testing.T) {
	for _, x := range [][3]int{{26, 3, 2}, {27, 3, 3}, {0, 1, 0}, {0, 64, 0}, {1, 64, 1}, {2, 64, 1}, {2, 1, 2}, {3, 2, 1}, {4, 2, 2}, {8, 2, 2}, {9, 2, 3}, {math.MaxInt, 1, math.MaxInt}, {math.MaxInt, 62, 2}, {math.MaxInt, 63, 1}, {math.MaxInt, 64, 1}} {
		if r, e := exact.Root(exact.FromInt(x[0]), x[1]); !same(r, exact.FromInt(x[2])) || e != api.OK {
			t.Errorf("Root(%d, %d) = %v, %d", x[0], x[1], r, e)
		}
	}
	for k := 1; k <= 64; k++ {
		for n := range int64(40) {
			b := big.NewInt(n)
			root, e := exact.Root(fromBig(b), k)
			wantInt(t, fmt.Sprint("Root ", b, " ", k), root, e, bigRoot(b, k))
		}
		for _, base := range []*big.Int{big.NewInt(2), big.NewInt(3), big.NewInt(10), plus(power(2, 8192/k), -1), power(2, (8192-1)/k)} {
			exactPower := new(big.Int).Exp(base, big.NewInt(int64(k)), nil)
			root, e := exact.Root(fromBig(exactPower), k)
			wantInt(t, fmt.Sprint("Root of the power ", k), root, e, base)
			if base.BitLen() > 1 {
				root, e = exact.Root(fromBig(plus(exactPower, -1)), k)
				wantInt(t, fmt.Sprint("Root below the power ", k), root, e, plus(base, -1))
			}
		}
	}
	for _, k := range []int{2, 3, 5, 17, 64} {
		root, e := exact.Root(fromBig(largest()), k)
		wantInt(t, fmt.Sprint("Root of the greatest ", k), root, e, bigRoot(largest(), k))
	}
}

func TestP1_6_RootErrors(t *testing.T) {
	for _, k := range []int{0, -1, 65, math.MinInt, math.MaxInt} {
		for _, a := range []api.Int{{}, exact.FromInt(5)} {
			if r, e := exact.Root(a, k); !zeroInt(r) || e != api.ErrArg {
				t.Errorf("Root(%v, %d) = %v, %d", a, k, r, e)
			}
		}
	}
	for _, a := range append(badInts(), exact.FromInt(-1), exact.FromInt(-27), fromBig(negated(largest()))) {
		for _, k := range []int{0, 1, 2, 3, 64} {
			if r, e := exact.Root(a, k); !zeroInt(r) || e != api.ErrArg {
				t.Errorf("Root of a bad or negative Int, %d = %v, %d", k, r, e)
			}
		}
	}
}

func TestP1_6_Bits(t *testing.T) {
	for _, b := range append(samples(), big.NewInt(-8), big.NewInt(8)) {
		if n, e := exact.Bits(fromBig(b)); n != b.BitLen() || e != api.OK {
			t.Errorf("Bits(%v) = %d, %d", b, n, e)
		}
	}
	if n, e := exact.Bits(exact.FromInt(-8)); n != 4 || e != api.OK {
		t.Errorf("Bits(-8) = %d, %d", n, e)
	}
	for _, a := range badInts() {
		if n, e := exact.Bits(a); n != 0 || e != api.ErrArg {
			t.Errorf("Bits of a bad Int = %d, %d", n, e)
		}
	}
}
