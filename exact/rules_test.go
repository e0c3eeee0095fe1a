package exact_test

import (
	"fmt"
	"math"
	"reflect"
	"testing"

	"canting/api"
	"canting/exact"
)

// calls calls every function and returns all results.
func calls(l arguments) []any {
	a, b, f, g, m := l.a, l.b, l.f, l.g, l.m
	var out []any
	keep := func(results ...any) { out = append(out, results...) }
	keep2 := func(x any, e api.Errno) { keep(x, e) }
	keep(exact.Valid(a), exact.ValidRat(f), exact.FromInt(-3))
	for _, call := range signatures.ints {
		x, e := call(a, b)
		keep(x, e)
	}
	for _, call := range signatures.rats {
		x, e := call(f, g)
		keep(x, e)
	}
	for _, call := range signatures.powers {
		x, e := call(a, 1)
		y, d := call(a, 2)
		keep(x, e, y, d)
	}
	q, r, e := exact.Div(a, b)
	keep(q, r, e)
	h, x, y, e := exact.Ext(a, b)
	keep(h, x, y, e)
	keep2(second2(exact.ToInt(a)))
	keep2(second2(exact.Print(a)))
	keep2(second2(exact.Cmp(a, b)))
	keep2(second2(exact.Bits(a)))
	keep2(second2(exact.NewRat(a, b)))
	keep2(second2(exact.RatCmp(f, g)))
	keep2(second2(exact.RatFloor(f)))
	keep2(second2(exact.RatPrint(f)))
	form, pivots, e := exact.Rref(m)
	keep(form, pivots, e)
	keep2(second2(exact.Det(m)))
	keep2(second2(exact.Inverse(m)))
	keep2(second2(exact.Solve(m, l.row)))
	keep2(second2(exact.Kernel(m)))
	return out
}

func second2[T any](x T, e api.Errno) (any, api.Errno) {
	return x, e
}

// allWords returns the words of all Ints in a value, with the room behind them.
func allWords(v reflect.Value) [][]uint32 {
	var out [][]uint32
	switch v.Kind() {
	case reflect.Interface:
		return allWords(v.Elem())
	case reflect.Slice:
		if words, ok := v.Interface().([]uint32); ok {
			return [][]uint32{words[:cap(words)]}
		}
		for i := range v.Len() {
			out = append(out, allWords(v.Index(i))...)
		}
	case reflect.Struct:
		for i := range v.NumField() {
			out = append(out, allWords(v.Field(i))...)
		}
	}
	return out
}

// arguments are those of all functions.
type arguments struct {
	a, b api.Int
	f, g api.Rat
	m    [][]api.Rat
	row  []api.Rat
}

func ruleArguments() []arguments {
	wide := fromBig(largest())
	square := matrix("1 2 3; 4 5 6; 7 8 10")
	return []arguments{
		{exact.FromInt(12), exact.FromInt(18), rational("1/2"), rational("3"), square, row("1 0 2")},
		{exact.FromInt(5), exact.FromInt(0), rational("5"), rational("0"), matrix("1 0; 0 1"), row("3 4")},
		{exact.FromInt(0), exact.FromInt(7), rational("0"), rational("-1/3"), matrix("0 0; 0 0"), row("0 0")},
		{exact.FromInt(1), exact.FromInt(1), rational("1"), rational("1"), matrix("1 2 3 4; 0 0 0 1"), row("1 1")},
		{wide, exact.FromInt(1), rational("4294967296"), rational("1"), matrix("5"), row("2")},
		{exact.FromInt(3), fromBig(largest()), rational("1/3"), rational("1/3"), matrix("1 2; 2 4"), row("1 3")},
		{exact.FromInt(math.MinInt), exact.FromInt(-1), rational("-7/2"), rational("2"), longMatrix(), longMatrix()[3]},
		{sized(true), exact.FromInt(1), api.Rat{}, rational("1"), [][]api.Rat{{}}, nil},
	}
}

// TestRules checks that no argument is changed, that the same calls give the same results, and that results share memory neither with arguments nor with each other.
func TestRules(t *testing.T) {
	for i, l := range ruleArguments() {
		first := calls(l)
		if !reflect.DeepEqual(l, ruleArguments()[i]) {
			t.Fatalf("arguments %d have changed", i)
		}
		text := fmt.Sprint(first...)
		if again := fmt.Sprint(calls(l)...); again != text {
			t.Errorf("arguments %d: %s, then %s", i, text, again)
		}
		owner := map[*uint32]bool{}
		for _, words := range allWords(reflect.ValueOf([]any{l.a, l.b, l.f, l.g, l.m, l.row, first})) {
			for j := range words {
				if owner[&words[j]] {
					t.Fatalf("arguments %d: a word is shared", i)
				}
				owner[&words[j]] = true
				words[j] = math.MaxUint32
			}
		}
		if again := fmt.Sprint(calls(ruleArguments()[i])...); again != text {
			t.Errorf("arguments %d: later results depend on what becomes of earlier ones", i)
		}
	}
}

// TestNilSlices checks that nil and empty slices are the same as arguments.
func TestNilSlices(t *testing.T) {
	zero, one := api.Int{Words: []uint32{}}, exact.FromInt(1)
	half, none := rational("1/2"), api.Rat{Num: zero, Den: one}
	with := calls(arguments{zero, one, none, half, [][]api.Rat{{none, half}, {half, none}}, []api.Rat{none, half}})
	plain := rational("0")
	without := calls(arguments{api.Int{}, one, plain, half, [][]api.Rat{{plain, half}, {half, plain}}, []api.Rat{plain, half}})
	if got, want := fmt.Sprint(with...), fmt.Sprint(without...); got != want {
		t.Errorf("with empty slices %s, with nil slices %s", got, want)
	}
}
