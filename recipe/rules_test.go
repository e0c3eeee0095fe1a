package recipe_test

import (
	"fmt"
	"math/rand"
	"reflect"
	"testing"

	"canting/api"
	"canting/recipe"
)

// arguments are those of all functions.
type arguments struct {
	p             recipe.Program
	a             recipe.Answer
	stock         [][]api.Rat
	target, price []api.Rat
	most          int
}

func ruleArguments() []arguments {
	r := rand.New(rand.NewSource(67))
	var out []arguments
	for k, p := range programs()[:120] {
		var stock [][]api.Rat
		for range 1 + k%8 {
			stock = append(stock, randomRats(r, 2, k%5))
		}
		a, e := recipe.Solve(p)
		if e != api.OK || k%4 == 0 {
			a = recipe.Answer{Kind: 1, Value: rational("3"), X: row("1 2 3"), Y: row("1"), Ray: row("2/3")}
		}
		out = append(out, arguments{p, a, stock, randomRats(r, 2, k%5), randomRats(r, len(stock), k%5), k % 7})
	}
	bad := badPrograms()
	for _, what := range sorted(bad) {
		if p := bad[what]; len(p.A)+len(p.B)+len(p.C) < 100 {
			out = append(out, arguments{p, recipe.Answer{Kind: 2}, p.A, p.B, p.C, 7})
		}
	}
	return out
}

func either[T any](x T, e api.Errno) []any {
	return []any{x, e}
}

// callAll calls every function and returns all results.
func callAll(x arguments) []any {
	return []any{
		either(recipe.Solve(x.p)),
		either(recipe.Check(x.p, x.a)),
		either(recipe.Vertices(x.p)),
		either(recipe.Mix(x.stock, x.target, x.price)),
		either(recipe.Whole(x.p, x.most)),
	}
}

// visit calls meet with each element of the slices in a value, with the room behind them, from within.
func visit(v reflect.Value, meet func(element reflect.Value)) {
	switch v.Kind() {
	case reflect.Interface:
		visit(v.Elem(), meet)
	case reflect.Struct:
		for i := range v.NumField() {
			visit(v.Field(i), meet)
		}
	case reflect.Slice:
		whole := v.Slice(0, v.Cap())
		for i := range whole.Len() {
			visit(whole.Index(i), meet)
			if whole.Index(i).Kind() != reflect.Interface {
				meet(whole.Index(i))
			}
		}
	}
}

// addresses returns where the elements of all slices in a value lie, and reports the first that two slices share.
func addresses(t *testing.T, i int, v any) map[uintptr]bool {
	met := map[uintptr]bool{}
	visit(reflect.ValueOf(v), func(element reflect.Value) {
		at := element.Addr().Pointer()
		if met[at] {
			t.Errorf("arguments %d: memory is shared within a result", i)
		}
		met[at] = true
	})
	return met
}

// TestRules checks that no argument is changed, that the same calls give the same results, and that results share memory neither with arguments nor with each other.
func TestRules(t *testing.T) {
	all, untouched := ruleArguments(), ruleArguments()
	for i, x := range all {
		first := callAll(x)
		if !reflect.DeepEqual(x, untouched[i]) {
			t.Fatalf("arguments %d have changed", i)
		}
		shown := fmt.Sprint(first...)
		if again := fmt.Sprint(callAll(x)...); again != shown {
			t.Errorf("arguments %d: %s, then %s", i, shown, again)
		}
		met := addresses(t, i, first)
		for _, argument := range []any{x.p.A, x.p.B, x.p.C, x.a.X, x.a.Y, x.a.Ray, x.stock, x.target, x.price} {
			visit(reflect.ValueOf(argument), func(element reflect.Value) {
				if met[element.Addr().Pointer()] {
					t.Errorf("arguments %d: memory is shared with a result", i)
				}
			})
		}
		visit(reflect.ValueOf(first), func(element reflect.Value) { element.SetZero() })
		if !reflect.DeepEqual(x, untouched[i]) {
			t.Fatalf("arguments %d share memory with results", i)
		}
		if again := fmt.Sprint(callAll(x)...); again != shown {
			t.Errorf("arguments %d: later results depend on what becomes of earlier ones", i)
		}
	}
}

// TestNilSlices checks that nil and empty slices are the same as arguments.
func TestNilSlices(t *testing.T) {
	empty := []api.Rat{}
	full := arguments{recipe.Program{A: [][]api.Rat{}, B: empty, C: empty}, recipe.Answer{X: empty, Y: empty, Ray: empty}, [][]api.Rat{}, empty, empty, 0}
	if got, want := fmt.Sprint(callAll(full)...), fmt.Sprint(callAll(arguments{})...); got != want {
		t.Errorf("with empty slices %s, with nil slices %s", got, want)
	}
	for _, p := range plainPrograms() {
		a := must(recipe.Solve(p))
		for _, l := range []*[]api.Rat{&a.X, &a.Y, &a.Ray} {
			if len(*l) > 0 {
				continue
			}
			for _, none := range [][]api.Rat{nil, {}} {
				*l = none
				if ok, e := recipe.Check(p, a); !ok || e != api.OK {
					t.Errorf("%s: Check with an empty list: %v, %v", programText(p), ok, e)
				}
			}
		}
	}
	zero := api.Rat{Num: api.Int{Words: []uint32{}}, Den: rational("1").Den}
	p, q := program("1 0", "0", "0 1"), program("1 0", "0", "0 1")
	p.A[0][1], p.B[0], p.C[0] = zero, zero, zero
	if got, want := fmt.Sprint(callAll(arguments{p: p})...), fmt.Sprint(callAll(arguments{p: q})...); got != want {
		t.Errorf("with empty words %s, with nil words %s", got, want)
	}
}
