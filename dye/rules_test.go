package dye_test

import (
	"fmt"
	"maps"
	"math/rand"
	"reflect"
	"slices"
	"testing"

	"canting/api"
	"canting/dye"
)

// arguments are those of all functions.
type arguments struct {
	o    dye.Overlay
	u, v string
	act  []int
	s    int
	l    []dye.Rule
}

func ruleArguments() []arguments {
	var out []arguments
	r := rand.New(rand.NewSource(61))
	lists := ruleLists()
	for i, o := range slices.Concat(overlays(), full(), large()) {
		u, v := randomWord(r, o, r.Intn(10)), randomWord(r, o, r.Intn(65))
		out = append(out, arguments{o, u, v, actOf(o, u), r.Intn(2 * o.Colours), lists[i]})
	}
	bad := badOverlays()
	for _, what := range slices.Sorted(maps.Keys(bad)) {
		out = append(out, arguments{bad[what], "b", "w", []int{0, 1}, 0, []dye.Rule{{}}})
	}
	return append(out, arguments{overlays()[0], "x", "y", []int{-1, 2}, -1, slices.Repeat([]dye.Rule{{From: "w"}}, 201)})
}

func either[T any](x T, e api.Errno) []any {
	return []any{x, e}
}

// callAll calls every function and returns all results.
func callAll(x arguments) []any {
	r, l, d, e := dye.Classes(x.o)
	index, period, f := dye.Cycle(x.o, x.u)
	return []any{
		dye.Valid(x.o),
		either(dye.Act(x.o, x.u)),
		either(dye.Same(x.o, x.u, x.v)),
		either(dye.Elements(x.o)),
		either(dye.Normal(x.o, x.v)),
		either(dye.Find(x.o, x.act)),
		either(dye.Rules(x.o)),
		either(dye.Reduce(x.l, x.v)),
		either(dye.Pairs(x.l)),
		either(dye.Confluent(x.l)),
		r, l, d, e,
		either(dye.Idempotents(x.o)),
		index, period, f,
		either(dye.Reach(x.o, x.s)),
	}
}

// spoil overwrites all elements of the slices in a value, with the room behind them, and calls meet with the address of each.
func spoil(v reflect.Value, meet func(address uintptr)) {
	switch v.Kind() {
	case reflect.Interface:
		spoil(v.Elem(), meet)
	case reflect.Slice:
		whole := v.Slice(0, v.Cap())
		for i := range whole.Len() {
			element := whole.Index(i)
			spoil(element, meet)
			if element.Kind() != reflect.Interface {
				meet(element.Addr().Pointer())
				element.SetZero()
			}
		}
	case reflect.Struct:
		for i := range v.NumField() {
			spoil(v.Field(i), meet)
		}
	}
}

// TestRules checks that no argument is changed, that the same calls give the same results, and that results share memory neither with arguments nor with each other.
func TestRules(t *testing.T) {
	all, untouched := ruleArguments(), ruleArguments()
	for i, x := range all {
		first := callAll(x)
		if !reflect.DeepEqual(x, untouched[i]) {
			t.Fatalf("arguments %d have changed", i)
		}
		text := fmt.Sprint(first...)
		if again := fmt.Sprint(callAll(x)...); again != text {
			t.Errorf("arguments %d: %s, then %s", i, text, again)
		}
		met := map[uintptr]bool{}
		meet := func(address uintptr) {
			if met[address] {
				t.Errorf("arguments %d: memory is shared", i)
			}
			met[address] = true
		}
		spoil(reflect.ValueOf(first), meet)
		if !reflect.DeepEqual(x, untouched[i]) {
			t.Fatalf("arguments %d share memory with results", i)
		}
		if again := fmt.Sprint(callAll(x)...); again != text {
			t.Errorf("arguments %d: later results depend on what becomes of earlier ones", i)
		}
	}
}

// TestNilSlices checks that nil and empty slices are the same as arguments.
func TestNilSlices(t *testing.T) {
	for _, colours := range []int{0, 1, 8} {
		for _, w := range []string{"", "w", "0"} {
			full := arguments{o: dye.Overlay{Colours: colours, Dyes: [][]int{}}, u: w, v: w, act: []int{}, l: []dye.Rule{}}
			none := arguments{o: dye.Overlay{Colours: colours}, u: w, v: w}
			if got, want := fmt.Sprint(callAll(full)...), fmt.Sprint(callAll(none)...); got != want {
				t.Errorf("with empty slices %s, with nil slices %s", got, want)
			}
		}
	}
}
