package design_test

import (
	"fmt"
	"reflect"
	"slices"
	"testing"

	"canting/api"
	"canting/design"
)

// arguments are those of all functions.
type arguments struct {
	e    design.Expr
	code []design.Instr
	s    string
	t, u string
	fuel int
}

func ruleArguments() []arguments {
	m := newMaker(1201)
	var out []arguments
	l := slices.Concat(m.designs(300, 3, nil), m.mixed(600, 30), examples(), large())
	for range 100 {
		l = append(l, m.value(3), m.any(20, []string{"x", "y"}))
	}
	types := append(m.someTypes(50), "b", "(a -> c)")
	for k, e := range l {
		x := arguments{e: e, s: printOf(e), t: types[k%len(types)], u: types[k*7%len(types)], fuel: 60}
		if len(freeOf(e)) == 0 {
			x.code = codeOf(e)
		} else {
			x.code = m.changed(codeOf(num(1)))
		}
		out = append(out, x)
	}
	bad := badNodes()
	for _, what := range sorted(bad) {
		out = append(out, arguments{bad[what], []design.Instr{{Op: 6, Body: []design.Instr{{}}}}, "", "", "", -1})
	}
	return out
}

func either[T any](x T, e api.Errno) []any {
	return []any{x, e}
}

// callAll calls every function and returns all results.
func callAll(x arguments) []any {
	v, n, e := design.Run(x.e, x.fuel)
	return []any{
		either(design.Parse(x.s)),
		either(design.Print(x.e)),
		either(design.Free(x.e)),
		either(design.Infer(x.e)),
		either(design.Instance(x.t, x.u)),
		either(design.Step(x.e)),
		v, n, e,
		either(design.Show(x.e)),
		either(design.Compile(x.e)),
		either(design.Exec(x.code, x.fuel)),
	}
}

// visit calls meet with each element of the slices in a value, with the room behind them, from within.
func visit(v reflect.Value, meet func(element reflect.Value)) {
	switch v.Kind() {
	case reflect.Interface:
		visit(v.Elem(), meet)
	case reflect.Struct:
		for i := range v.NumField() {
			visit(v.Field(i), meet)
		}
	case reflect.Slice:
		whole := v.Slice(0, v.Cap())
		for i := range whole.Len() {
			visit(whole.Index(i), meet)
			if whole.Index(i).Kind() != reflect.Interface {
				meet(whole.Index(i))
			}
		}
	}
}

// TestRules checks that no argument is changed, that the same calls give the same results, and that results share memory neither with arguments nor with each other.
func TestRules(t *testing.T) {
	all, untouched := ruleArguments(), ruleArguments()
	for i, x := range all {
		first := callAll(x)
		if !reflect.DeepEqual(x, untouched[i]) {
			t.Fatalf("arguments %d have changed", i)
		}
		shown := fmt.Sprint(first...)
		if again := fmt.Sprint(callAll(x)...); again != shown {
			t.Errorf("arguments %d: %s, then %s", i, brief(shown), brief(again))
		}
		met := map[uintptr]bool{}
		visit(reflect.ValueOf(first), func(element reflect.Value) {
			if met[element.Addr().Pointer()] {
				t.Errorf("arguments %d: memory is shared within the results", i)
			}
			met[element.Addr().Pointer()] = true
		})
		for _, argument := range []any{x.e, x.code} {
			visit(reflect.ValueOf(argument), func(element reflect.Value) {
				if met[element.Addr().Pointer()] {
					t.Errorf("arguments %d: memory is shared with a result", i)
				}
			})
		}
		visit(reflect.ValueOf(first), func(element reflect.Value) { element.SetZero() })
		if !reflect.DeepEqual(x, untouched[i]) {
			t.Fatalf("arguments %d share memory with results", i)
		}
		if again := fmt.Sprint(callAll(x)...); again != shown {
			t.Errorf("arguments %d: later results depend on what becomes of earlier ones", i)
		}
	}
}

// emptied returns e with empty slices in place of nil ones.
func emptied(e design.Expr) design.Expr {
	kids := []design.Expr{}
	for _, kid := range e.Kids {
		kids = append(kids, emptied(kid))
	}
	e.Kids = kids
	return e
}

func emptiedCode(code []design.Instr) []design.Instr {
	out := []design.Instr{}
	for _, i := range code {
		i.Body, i.Other = emptiedCode(i.Body), emptiedCode(i.Other)
		out = append(out, i)
	}
	return out
}

// TestNilSlices checks that nil and empty slices are the same as arguments.
func TestNilSlices(t *testing.T) {
	for _, x := range ruleArguments() {
		want := fmt.Sprint(callAll(x)...)
		x.e, x.code = emptied(x.e), emptiedCode(x.code)
		if got := fmt.Sprint(callAll(x)...); got != want {
			t.Errorf("with empty slices %s, with nil slices %s", brief(got), brief(want))
		}
	}
}

// TestSharedKids checks that parts of an argument may be in the same memory.
func TestSharedKids(t *testing.T) {
	e := op("+", num(1), num(2))
	for range 6 {
		kids := []design.Expr{e, e}
		e = with(kindPair, kids...)
	}
	v, n, bad := design.Run(e, 1000)
	if n != 64 || bad != api.OK || nodes(v) != 127 {
		t.Errorf("Run: %s, %d, %v", brief(v), n, bad)
	}
	met := map[*design.Expr]bool{}
	var walk func(e design.Expr)
	walk = func(e design.Expr) {
		for k := range e.Kids {
			if met[&e.Kids[k]] {
				t.Error("memory is shared within the result")
			}
			met[&e.Kids[k]] = true
			walk(e.Kids[k])
		}
	}
	walk(v)
	walk(must(design.Step(e)))
	twice := must(design.Step(apply(fn("x", pair(name("x"), name("x"))), pair(num(1), num(2)))))
	walk(twice)
}
