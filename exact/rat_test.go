package exact_test

import (
	"fmt"
	"math/big"
	"math/rand"
	"strings"
	"testing"

	"canting/api"
	"canting/exact"
)

func ratSamples() []*big.Rat {
	r := rand.New(rand.NewSource(4))
	var out []*big.Rat
	for _, s := range []string{"0", "1", "-1", "2", "-3", "1/2", "-1/2", "1/3", "-2/3", "7/2", "-7/2", "5/6", "-35/12", "4294967296", "1/4294967296", "4294967295/4294967296", "-18446744073709551615/18446744073709551616"} {
		out = append(out, toBigRat(rational(s)))
	}
	for _, n := range []int{1, 2, 3, 20, 128, 256} {
		out = append(out, new(big.Rat).SetFrac(randomBig(r, n), randomBig(r, n)),
			new(big.Rat).SetFrac(negated(randomBig(r, n)), randomBig(r, n/2+1)))
	}
	return append(out, new(big.Rat).SetInt(largest()), new(big.Rat).SetFrac(big.NewInt(-1), largest()),
		new(big.Rat).SetFrac(largest(), power(2, 8191)))
}

func TestP1_7_ValidRat(t *testing.T) {
	for _, f := range ratSamples() {
		if !exact.ValidRat(fromBigRat(f)) {
			t.Errorf("ValidRat(%v) is false", f)
		}
	}
	if !exact.ValidRat(api.Rat{Num: api.Int{Words: []uint32{}}, Den: sized(false, 1)}) {
		t.Error("ValidRat of zero is false")
	}
	for i, f := range badRats() {
		if exact.ValidRat(f) {
			t.Errorf("ValidRat of the bad Rat %d is true", i)
		}
	}
}

func TestP1_7_NewRat(t *testing.T) {
	for _, x := range samples() {
		for _, y := range samples() {
			f, e := exact.NewRat(fromBig(x), fromBig(y))
			if y.Sign() == 0 {
				if !zeroRat(f) || e != api.ErrZero {
					t.Errorf("NewRat(%v, 0) = %v, %d", x, f, e)
				}
				continue
			}
			wantRat(t, fmt.Sprint("NewRat ", x, " ", y), f, e, new(big.Rat).SetFrac(x, y))
		}
	}
	f, e := exact.NewRat(exact.FromInt(-6), exact.FromInt(-4))
	if !sameRat(f, api.Rat{Num: sized(false, 3), Den: sized(false, 2)}) || e != api.OK {
		t.Errorf("NewRat(-6, -4) = %v, %d", f, e)
	}
	for _, bad := range badInts() {
		for _, p := range [][2]api.Int{{bad, exact.FromInt(1)}, {exact.FromInt(1), bad}, {bad, {}}} {
			if f, e := exact.NewRat(p[0], p[1]); !zeroRat(f) || e != api.ErrArg {
				t.Errorf("NewRat = %v, %d", f, e)
			}
		}
	}
}

func TestP1_7_Arithmetic(t *testing.T) {
	for _, x := range ratSamples() {
		for _, y := range ratSamples() {
			f, g := fromBigRat(x), fromBigRat(y)
			what := fmt.Sprint(x, " ", y)
			if c, e := exact.RatCmp(f, g); c != x.Cmp(y) || e != api.OK {
				t.Errorf("RatCmp %s = %d, %d", what, c, e)
			}
			sum, e := exact.RatAdd(f, g)
			wantRat(t, "RatAdd "+what, sum, e, new(big.Rat).Add(x, y))
			difference, e := exact.RatSub(f, g)
			wantRat(t, "RatSub "+what, difference, e, new(big.Rat).Sub(x, y))
			product, e := exact.RatMul(f, g)
			wantRat(t, "RatMul "+what, product, e, new(big.Rat).Mul(x, y))
			quotient, e := exact.RatDiv(f, g)
			if y.Sign() == 0 {
				if !zeroRat(quotient) || e != api.ErrZero {
					t.Errorf("RatDiv %s = %v, %d", what, quotient, e)
				}
				continue
			}
			wantRat(t, "RatDiv "+what, quotient, e, new(big.Rat).Quo(x, y))
		}
	}
}

// TestP1_7_LongOnTheWay has results that are representable although sums and products on the way to them are not.
func TestP1_7_LongOnTheWay(t *testing.T) {
	top, below := largest(), plus(largest(), -1)
	f := new(big.Rat).SetFrac(top, below)
	g := new(big.Rat).SetFrac(below, top)
	half := new(big.Rat).SetFrac(big.NewInt(1), power(2, 8191))
	for _, p := range [][2]*big.Rat{{f, g}, {f, f}, {g, g}, {half, half}, {f, new(big.Rat).Neg(f)}} {
		x, y := fromBigRat(p[0]), fromBigRat(p[1])
		sum, e := exact.RatAdd(x, y)
		wantRat(t, "RatAdd", sum, e, new(big.Rat).Add(p[0], p[1]))
		difference, e := exact.RatSub(x, y)
		wantRat(t, "RatSub", difference, e, new(big.Rat).Sub(p[0], p[1]))
		product, e := exact.RatMul(x, y)
		wantRat(t, "RatMul", product, e, new(big.Rat).Mul(p[0], p[1]))
		quotient, e := exact.RatDiv(x, y)
		wantRat(t, "RatDiv", quotient, e, new(big.Rat).Quo(p[0], p[1]))
		if c, e := exact.RatCmp(x, y); c != p[0].Cmp(p[1]) || e != api.OK {
			t.Errorf("RatCmp = %d, %d", c, e)
		}
	}
	if p, e := exact.RatMul(fromBigRat(f), fromBigRat(g)); !sameRat(p, rational("1")) || e != api.OK {
		t.Errorf("f times 1/f: error %d", e)
	}
}

func TestP1_7_Range(t *testing.T) {
	top := new(big.Rat).SetInt(largest())
	tiny := new(big.Rat).Inv(top)
	one := rational("1")
	f, g := fromBigRat(top), fromBigRat(tiny)
	for i, e := range []api.Errno{
		second(exact.RatAdd(f, one)), second(exact.RatSub(fromBigRat(new(big.Rat).Neg(top)), one)),
		second(exact.RatAdd(f, g)), second(exact.RatMul(f, f)), second(exact.RatMul(g, g)),
		second(exact.RatDiv(f, g)), second(exact.RatDiv(g, f)), second(exact.RatMul(g, rational("1/2"))),
		second(exact.RatSub(g, rational("1/2"))),
	} {
		if e != api.ErrRange {
			t.Errorf("call %d: error %d", i, e)
		}
	}
}

func TestP1_7_Arguments(t *testing.T) {
	zero, good := rational("0"), rational("2/3")
	for i, bad := range badRats() {
		for _, p := range [][2]api.Rat{{bad, good}, {good, bad}, {bad, zero}, {bad, bad}} {
			if c, e := exact.RatCmp(p[0], p[1]); c != 0 || e != api.ErrArg {
				t.Errorf("bad Rat %d: RatCmp = %d, %d", i, c, e)
			}
			for j, call := range signatures.rats {
				if f, e := call(p[0], p[1]); !zeroRat(f) || e != api.ErrArg {
					t.Errorf("bad Rat %d: call %d = %v, %d", i, j, f, e)
				}
			}
		}
		if a, e := exact.RatFloor(bad); !zeroInt(a) || e != api.ErrArg {
			t.Errorf("bad Rat %d: RatFloor = %v, %d", i, a, e)
		}
	}
}

func TestP1_7_RatFloor(t *testing.T) {
	for s, want := range map[string]int64{"7/2": 3, "-7/2": -4, "1/2": 0, "-1/2": -1, "5": 5, "-5": -5, "0": 0, "-1/4294967296": -1, "99/100": 0, "-9/3": -3} {
		a, e := exact.RatFloor(rational(s))
		wantInt(t, "RatFloor "+s, a, e, big.NewInt(want))
	}
	for _, f := range ratSamples() {
		a, e := exact.RatFloor(fromBigRat(f))
		wantInt(t, fmt.Sprint("RatFloor ", f), a, e, new(big.Int).Div(f.Num(), f.Denom()))
	}
}

func TestP1_8_RatPrintRatParse(t *testing.T) {
	for _, f := range ratSamples() {
		s, e := exact.RatPrint(fromBigRat(f))
		if s != f.RatString() || e != api.OK {
			t.Errorf("RatPrint(%v) = %s, %d", f, s, e)
		}
		g, e := exact.RatParse(f.RatString())
		wantRat(t, fmt.Sprint("RatParse ", f), g, e, f)
	}
	for _, s := range []string{"0", "1", "-1", "1/2", "-1/2", "10/7", "-2/3", "12"} {
		if g, e := exact.RatParse(s); !sameRat(g, rational(s)) || e != api.OK {
			t.Errorf("RatParse(%s) = %v, %d", s, g, e)
		}
	}
}

func TestP1_8_Errors(t *testing.T) {
	top, wide := largest().String(), power(2, 8192).String()
	bad := []string{"", "/", "1/", "/2", "//", "1//2", "1/2/3", "1/2/", "/1/2", "3/1", "-3/1", "0/1", "0/2", "-0", "-0/5", "2/4", "-2/4",
		"6/3", "3/3", "1/0", "0/0", "-1/0", "1/-2", "-1/-2", "+1/2", "1/+2", "01/2", "1/02", "1/00", "1 /2", "1/ 2", " 1/2", "1/2 ",
		"1/2\n", "1.5", "a", "a/2", "1/a", "--1/2", "1|2", "1\\2", wide, "-" + wide, "1/" + wide, wide + "/3", top + "/" + top, "00", "007", "+1",
		top + "/1", strings.Repeat("1", 100_000) + "/" + strings.Repeat("3", 100_000), strings.Repeat("/", 100_000)}
	for _, s := range bad {
		if f, e := exact.RatParse(s); !zeroRat(f) || e != api.ErrForm {
			t.Errorf("RatParse(%.20q) = %v, %d", s, f, e)
		}
	}
	for i, f := range badRats() {
		if s, e := exact.RatPrint(f); s != "" || e != api.ErrArg {
			t.Errorf("RatPrint of the bad Rat %d = %q, %d", i, s, e)
		}
	}
}
