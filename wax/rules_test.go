package wax_test

import (
	"fmt"
	"math/rand"
	"reflect"
	"testing"

	"canting/api"
	"canting/wax"
)

// arguments are those of all functions.
type arguments struct {
	n, w      wax.Net
	flow      []int
	side      []bool
	u, v      int
	c         wax.Cloth
	rise      int
	labelling []bool
}

func ruleArguments() []arguments {
	r := rand.New(rand.NewSource(94))
	nets, webs, cloths := nets(), webs(), cloths()
	var out []arguments
	for k := range 200 {
		n, w, c := nets[len(nets)-1-k%len(nets)], webs[k%len(webs)], cloths[k%len(cloths)]
		x := arguments{n, w, make([]int, len(n.Arcs)), randomSide(r, n), 0, 1, c, r.Intn(41) - 20, make([]bool, c.W*c.H)}
		if k%2 == 0 {
			x.flow, x.side = must(wax.Flow(n)), must(wax.Greatest(n))
		}
		out = append(out, x)
	}
	badNets, badCloths := badNets(), badCloths()
	others := sorted(badCloths)
	for k, what := range sorted(badNets) {
		c := badCloths[others[k%len(others)]]
		out = append(out, arguments{badNets[what], badNets[what], []int{1}, []bool{true, false}, 0, 1, c, 0, []bool{true}})
	}
	return out
}

func results[T any](x T, e api.Errno) []any {
	return []any{x, e}
}

// callAll calls every function and returns all results.
func callAll(x arguments) []any {
	parent, weight, e := wax.Tree(x.w)
	least, greatest, f := wax.Labels(x.c, x.rise)
	return []any{
		results(wax.Flow(x.n)),
		results(wax.Value(x.n)),
		results(wax.Check(x.n, x.flow, x.side)),
		results(wax.Least(x.n)),
		results(wax.Greatest(x.n)),
		results(wax.Sides(x.n)),
		results(wax.Cut(x.w, x.u, x.v)),
		parent, weight, e,
		results(wax.Energy(x.c, x.rise, x.labelling)),
		least, greatest, f,
		results(wax.Prices(x.c)),
	}
}

// visit calls meet with each element of the slices in a value, with the room behind them, from within.
func visit(v reflect.Value, meet func(element reflect.Value)) {
	switch v.Kind() {
	case reflect.Interface:
		visit(v.Elem(), meet)
	case reflect.Slice:
		whole := v.Slice(0, v.Cap())
		for i := range whole.Len() {
			visit(whole.Index(i), meet)
			if whole.Index(i).Kind() != reflect.Interface {
				meet(whole.Index(i))
			}
		}
	}
}

// addresses returns where the elements of all slices in a value lie, and reports the first that two slices share.
func addresses(t *testing.T, i int, v any) map[uintptr]bool {
	met := map[uintptr]bool{}
	visit(reflect.ValueOf(v), func(element reflect.Value) {
		at := element.Addr().Pointer()
		if met[at] {
			t.Errorf("arguments %d: memory is shared within a result", i)
		}
		met[at] = true
	})
	return met
}

// TestRules checks that no argument is changed, that the same calls give the same results, and that results share memory neither with arguments nor with each other.
func TestRules(t *testing.T) {
	all, untouched := ruleArguments(), ruleArguments()
	for i, x := range all {
		first := callAll(x)
		if !reflect.DeepEqual(x, untouched[i]) {
			t.Fatalf("arguments %d have changed", i)
		}
		shown := fmt.Sprint(first...)
		if again := fmt.Sprint(callAll(x)...); again != shown {
			t.Errorf("arguments %d: %s, then %s", i, shown, again)
		}
		met := addresses(t, i, first)
		for _, argument := range []any{x.n.Arcs, x.w.Arcs, x.flow, x.side, x.c.Bare, x.c.Waxed, x.c.Right, x.c.Down, x.labelling} {
			visit(reflect.ValueOf(argument), func(element reflect.Value) {
				if met[element.Addr().Pointer()] {
					t.Errorf("arguments %d: memory is shared with a result", i)
				}
			})
		}
		visit(reflect.ValueOf(first), func(element reflect.Value) { element.SetZero() })
		if !reflect.DeepEqual(x, untouched[i]) {
			t.Fatalf("arguments %d share memory with results", i)
		}
		if again := fmt.Sprint(callAll(x)...); again != shown {
			t.Errorf("arguments %d: later results depend on what becomes of earlier ones", i)
		}
	}
}

// TestNilSlices checks that nil and empty slices are the same as arguments.
func TestNilSlices(t *testing.T) {
	full := arguments{
		n: wax.Net{N: 2, Arcs: []wax.Arc{}}, w: wax.Net{N: 2, Arcs: []wax.Arc{}}, flow: []int{}, side: []bool{true, false}, u: 1,
		c: wax.Cloth{W: 1, H: 1, Bare: []int{4}, Waxed: []int{5}, Right: []int{}, Down: []int{}}, labelling: []bool{},
	}
	none := full
	none.n.Arcs, none.w.Arcs, none.flow, none.c.Right, none.c.Down, none.labelling = nil, nil, nil, nil, nil, nil
	got, want := fmt.Sprint(callAll(full)...), fmt.Sprint(callAll(none)...)
	if got != want {
		t.Errorf("with empty slices %s, with nil slices %s", got, want)
	}
	if ok, e := wax.Check(none.n, none.flow, none.side); !ok || e != api.OK {
		t.Errorf("Check without arcs: %v, %v", ok, e)
	}
	if prices, e := wax.Prices(none.c); fmt.Sprint(prices) != "[-1]" || e != api.OK {
		t.Errorf("Prices of one cell: %v, %v", prices, e)
	}
	empty := arguments{n: wax.Net{Arcs: []wax.Arc{}}, side: []bool{}, c: wax.Cloth{Bare: []int{}, Waxed: []int{}}}
	if got, want := fmt.Sprint(callAll(empty)...), fmt.Sprint(callAll(arguments{})...); got != want {
		t.Errorf("with empty slices %s, with nil slices %s", got, want)
	}
}
