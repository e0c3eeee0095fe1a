package crackle_test

import (
	"fmt"
	"math/rand"
	"reflect"
	"strings"
	"testing"

	"canting/api"
	"canting/crackle"
)

// arguments are those of all functions.
type arguments struct {
	m      crackle.Map
	edge   int
	w, h   int
	weight []int
	fixed  []crackle.Fixed
	a, b   int
	p      []api.Rat
}

func ruleArguments() []arguments {
	r := rand.New(rand.NewSource(105))
	all := allKinds()[700:]
	var out []arguments
	for k := range 400 {
		m := all[k*len(all)/400]
		if edges(m) == 0 {
			continue
		}
		x := arguments{m, k % edges(m), 1 + k%5, 1 + k/5%5, randomWeights(r, m, 9), fixedBut(r, m, k%9), 0, k % len(m.Next), nil}
		x.p = must(crackle.Potential(m, x.weight, x.fixed))
		out = append(out, x)
	}
	bad := badMaps()
	for k, what := range sorted(bad) {
		if m := bad[what]; len(m.Next) < 100 {
			out = append(out, arguments{m, 0, k % 7, k % 6, ones(m), []crackle.Fixed{{}}, 0, 1, rats(strings.Repeat("1/3 ", len(m.Next)))})
		}
	}
	return out
}

func either[T any](x T, e api.Errno) []any {
	return []any{x, e}
}

// callAll calls every function and returns all results.
func callAll(x arguments) []any {
	v, n, f, c, e := crackle.Euler(x.m)
	return []any{
		crackle.Valid(x.m),
		either(crackle.Vertex(x.m)),
		either(crackle.Face(x.m)),
		either(crackle.Part(x.m)),
		v, n, f, c, e,
		either(crackle.Dual(x.m)),
		either(crackle.Delete(x.m, x.edge)),
		either(crackle.Contract(x.m, x.edge)),
		either(crackle.Grid(x.w, x.h)),
		either(crackle.Forest(x.m, x.weight)),
		either(crackle.Trees(x.m)),
		either(crackle.Cycles(x.m)),
		either(crackle.Bonds(x.m)),
		either(crackle.Girth(x.m)),
		either(crackle.Tough(x.m)),
		either(crackle.Potential(x.m, x.weight, x.fixed)),
		either(crackle.Resist(x.m, x.weight, x.a, x.b)),
		either(crackle.Energy(x.m, x.weight, x.p)),
	}
}

// visit calls meet with each element of the slices in a value, with the room behind them, from within.
func visit(v reflect.Value, meet func(element reflect.Value)) {
	switch v.Kind() {
	case reflect.Interface:
		visit(v.Elem(), meet)
	case reflect.Struct:
		for i := range v.NumField() {
			visit(v.Field(i), meet)
		}
	case reflect.Slice:
		whole := v.Slice(0, v.Cap())
		for i := range whole.Len() {
			visit(whole.Index(i), meet)
			if whole.Index(i).Kind() != reflect.Interface {
				meet(whole.Index(i))
			}
		}
	}
}

// place is where an element lies. A struct lies where its first field does, so the kind belongs to it.
type place struct {
	at   uintptr
	kind reflect.Kind
}

func placeOf(element reflect.Value) place {
	return place{element.Addr().Pointer(), element.Kind()}
}

// TestRules checks that no argument is changed, that the same calls give the same results, and that results share memory neither with arguments nor with each other.
func TestRules(t *testing.T) {
	all, untouched := ruleArguments(), ruleArguments()
	for i, x := range all {
		first := callAll(x)
		if !reflect.DeepEqual(x, untouched[i]) {
			t.Fatalf("arguments %d have changed", i)
		}
		shown := fmt.Sprint(first...)
		if again := fmt.Sprint(callAll(x)...); again != shown {
			t.Errorf("arguments %d: %s, then %s", i, shown, again)
		}
		met := map[place]bool{}
		visit(reflect.ValueOf(first), func(element reflect.Value) {
			if met[placeOf(element)] {
				t.Errorf("arguments %d: memory is shared within the results", i)
			}
			met[placeOf(element)] = true
		})
		for _, argument := range []any{x.m.Next, x.weight, x.fixed, x.p} {
			visit(reflect.ValueOf(argument), func(element reflect.Value) {
				if met[placeOf(element)] {
					t.Errorf("arguments %d: memory is shared with a result", i)
				}
			})
		}
		visit(reflect.ValueOf(first), func(element reflect.Value) { element.SetZero() })
		if !reflect.DeepEqual(x, untouched[i]) {
			t.Fatalf("arguments %d share memory with results", i)
		}
		if again := fmt.Sprint(callAll(x)...); again != shown {
			t.Errorf("arguments %d: later results depend on what becomes of earlier ones", i)
		}
	}
}

// TestNilSlices checks that nil and empty slices are the same as arguments.
func TestNilSlices(t *testing.T) {
	full := arguments{m: crackle.Map{Next: []int{}}, weight: []int{}, fixed: []crackle.Fixed{}, p: []api.Rat{}}
	got, want := fmt.Sprint(callAll(full)...), fmt.Sprint(callAll(arguments{})...)
	if got != want {
		t.Errorf("with empty slices %s, with nil slices %s", got, want)
	}
	empty := []api.Rat{{Num: api.Int{Words: []uint32{}}, Den: api.Int{Words: []uint32{1}}}, {Den: api.Int{Words: []uint32{1}}}}
	if f, e := crackle.Energy(dots(1, 0), []int{1}, empty); text(f) != "0" || e != api.OK {
		t.Errorf("Energy with empty and nil Words: %s, %v", text(f), e)
	}
	if p, e := crackle.Potential(dots(), nil, nil); len(p) != 0 || e != api.OK {
		t.Errorf("Potential of nothing: %s, %v", texts(p), e)
	}
	if p, e := crackle.Potential(dots(0, 1), []int{1}, []crackle.Fixed{}); len(p) != 0 || e != api.ErrFree {
		t.Errorf("Potential with nothing fixed: %s, %v", texts(p), e)
	}
}
