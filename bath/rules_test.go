package bath_test

import (
	"fmt"
	"math/rand"
	"reflect"
	"slices"
	"testing"

	"canting/api"
	"canting/bath"
)

// arguments are those of all functions.
type arguments struct {
	s, u, v      string
	l            []string
	p            bath.Plan
	order        []int
	table, price []int
	d            [][]int
	pi           []int
}

func ruleArguments() []arguments {
	r := rand.New(rand.NewSource(96))
	lists, dists := wordLists(), distances()
	var out []arguments
	for i, p := range plans() {
		l, d := lists[i%len(lists)], dists[i%len(dists)]
		order, table, price := r.Perm(len(p.Start)), must(bath.Table(l)), make([]int, len(p.Start)<<len(p.Start))
		if best, e := bath.Best(p); e == api.OK {
			order, price = best, must(bath.Prices(p))
		}
		out = append(out, arguments{randomText(r, 8, 40), l[0], l[len(l)-1], l, p, order, table, price, d, randomPi(r, len(d), 9)})
	}
	words, plans, badDists := badWords(), badPlans(), badDistances()
	for i, what := range sorted(words) {
		p, d := sorted(plans), sorted(badDists)
		out = append(out, arguments{"i", "i", "", words[what], plans[p[i%len(p)]], []int{0}, []int{1}, []int{2}, badDists[d[i%len(d)]], []int{3}})
	}
	return out
}

func either[T any](x T, e api.Errno) []any {
	return []any{x, e}
}

// callAll calls every function and returns all results.
func callAll(x arguments) []any {
	bound, sound, e := bath.Bound(x.l, x.table)
	least, good, f := bath.Check(x.p, x.price)
	return []any{
		either(bath.Covers(x.s, x.l)),
		either(bath.Shortest(x.l)),
		either(bath.Count(x.l)),
		either(bath.Table(x.l)),
		bound, sound, e,
		either(bath.Common(x.u, x.v)),
		either(bath.Cost(x.p, x.order)),
		either(bath.Best(x.p)),
		either(bath.Prices(x.p)),
		least, good, f,
		either(bath.Tour(x.d)),
		either(bath.Tree(x.d, x.pi)),
	}
}

// spoil overwrites all elements of the slices in a value, with the room behind them, and calls meet with the address of each.
func spoil(v reflect.Value, meet func(address uintptr)) {
	switch v.Kind() {
	case reflect.Interface:
		spoil(v.Elem(), meet)
	case reflect.Slice:
		whole := v.Slice(0, v.Cap())
		for i := range whole.Len() {
			element := whole.Index(i)
			spoil(element, meet)
			if element.Kind() != reflect.Interface {
				meet(element.Addr().Pointer())
				element.SetZero()
			}
		}
	}
}

// TestRules checks that no argument is changed, that the same calls give the same results, and that results share memory neither with arguments nor with each other.
func TestRules(t *testing.T) {
	all, untouched := ruleArguments(), ruleArguments()
	for i, x := range all {
		first := callAll(x)
		if !reflect.DeepEqual(x, untouched[i]) {
			t.Fatalf("arguments %d have changed", i)
		}
		text := fmt.Sprint(first...)
		if again := fmt.Sprint(callAll(x)...); again != text {
			t.Errorf("arguments %d: %s, then %s", i, text, again)
		}
		met := map[uintptr]bool{}
		meet := func(address uintptr) {
			if met[address] {
				t.Errorf("arguments %d: memory is shared", i)
			}
			met[address] = true
		}
		spoil(reflect.ValueOf(first), meet)
		if !reflect.DeepEqual(x, untouched[i]) {
			t.Fatalf("arguments %d share memory with results", i)
		}
		if again := fmt.Sprint(callAll(x)...); again != text {
			t.Errorf("arguments %d: later results depend on what becomes of earlier ones", i)
		}
	}
}

// TestNilSlices checks that nil and empty slices are the same as arguments.
func TestNilSlices(t *testing.T) {
	full := arguments{l: []string{}, p: bath.Plan{Start: []int{}, Change: [][]int{}, Before: [][2]int{}}, order: []int{}, table: []int{}, price: []int{}, d: [][]int{}, pi: []int{}}
	if got, want := fmt.Sprint(callAll(full)...), fmt.Sprint(callAll(arguments{})...); got != want {
		t.Errorf("with empty slices %s, with nil slices %s", got, want)
	}
	one := arguments{l: []string{"a"}, table: []int{}, p: bath.Plan{Start: []int{4}, Change: [][]int{{0}}, Before: [][2]int{}}, order: []int{}, price: []int{}, d: distances()[0], pi: []int{}}
	none := one
	none.p.Before, none.order, none.table, none.price, none.pi = nil, nil, nil, nil, nil
	if got, want := fmt.Sprint(callAll(one)...), fmt.Sprint(callAll(none)...); got != want {
		t.Errorf("with empty slices %s, with nil slices %s", got, want)
	}
	for _, row := range [][]int{{}, nil} {
		if got := callAll(arguments{d: slices.Repeat([][]int{row}, 3)}); !reflect.DeepEqual(got[len(got)-2], either([]int(nil), api.ErrArg)) {
			t.Errorf("with empty rows: %v", got)
		}
	}
}
