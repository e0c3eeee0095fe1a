package stamp_test

import (
	"fmt"
	"math/rand"
	"reflect"
	"testing"

	"canting/api"
	"canting/stamp"
)

// arguments are those of all functions.
type arguments struct {
	s    stamp.Stamp
	a, b stamp.Move
	g, l []stamp.Move
	n    int
}

func ruleArguments() []arguments {
	var out []arguments
	r := rand.New(rand.NewSource(61))
	for _, z := range sizes {
		w, h := z[0], z[1]
		list := []stamp.Move{randomMove(r, w, h), randomMove(r, w, h), randomMove(r, w, h)}
		for _, g := range [][]stamp.Move{movesOf(w, h), {{}}, randomGroup(r, w, h), {{DX: w}}} {
			colours := 8
			for !fits(w, h, colours) {
				colours--
			}
			out = append(out, arguments{randomStamp(r, w, h, 3), randomMove(r, w, h), randomMove(r, w, h), g, list, colours})
		}
	}
	return out
}

func either[T any](x T, e api.Errno) []any {
	return []any{x, e}
}

// callAll calls every function and returns all results.
func callAll(l arguments) []any {
	w, h := l.s.W, l.s.H
	return []any{
		stamp.Valid(l.s),
		either(stamp.Apply(l.a, l.s)),
		either(stamp.Apply(stamp.Move{}, l.s)),
		either(stamp.After(w, h, l.a, l.b)),
		either(stamp.Inverse(w, h, l.a)),
		either(stamp.Moves(w, h)),
		either(stamp.Close(w, h, l.l)),
		either(stamp.Keeps(l.g, l.s)),
		either(stamp.Orbit(l.g, l.s)),
		either(stamp.Least(l.g, l.s)),
		either(stamp.Cells(w, h, l.g)),
		either(stamp.Burnside(w, h, l.n, l.g)),
		either(stamp.List(w, h, l.n, l.g)),
		either(stamp.Kind(l.s)),
	}
}

// spoil overwrites all elements of the slices in a value, with the room behind them, and calls meet with the address of each.
func spoil(v reflect.Value, meet func(address uintptr)) {
	switch v.Kind() {
	case reflect.Interface:
		spoil(v.Elem(), meet)
	case reflect.Slice:
		whole := v.Slice(0, v.Cap())
		for i := range whole.Len() {
			element := whole.Index(i)
			spoil(element, meet)
			if element.Kind() != reflect.Interface {
				meet(element.Addr().Pointer())
				element.SetZero()
			}
		}
	case reflect.Struct:
		for i := range v.NumField() {
			spoil(v.Field(i), meet)
		}
	}
}

// TestRules checks that no argument is changed, that the same calls give the same results, and that results share memory neither with arguments nor with each other.
func TestRules(t *testing.T) {
	all, untouched := ruleArguments(), ruleArguments()
	for i, l := range all {
		first := callAll(l)
		if !reflect.DeepEqual(l, untouched[i]) {
			t.Fatalf("arguments %d have changed", i)
		}
		text := fmt.Sprint(first...)
		if again := fmt.Sprint(callAll(l)...); again != text {
			t.Errorf("arguments %d: %s, then %s", i, text, again)
		}
		met := map[uintptr]bool{}
		meet := func(address uintptr) {
			if met[address] {
				t.Errorf("arguments %d: memory is shared", i)
			}
			met[address] = true
		}
		spoil(reflect.ValueOf(first), meet)
		if !reflect.DeepEqual(l, untouched[i]) {
			t.Fatalf("arguments %d share memory with results", i)
		}
		if again := fmt.Sprint(callAll(l)...); again != text {
			t.Errorf("arguments %d: later results depend on what becomes of earlier ones", i)
		}
	}
}

// TestNilSlices checks that nil and empty slices are the same as arguments.
func TestNilSlices(t *testing.T) {
	for _, z := range [][2]int{{0, 0}, {1, 1}, {2, 2}, {8, 8}} {
		full := arguments{s: stamp.Stamp{W: z[0], H: z[1], Cells: []int{}}, g: []stamp.Move{}, l: []stamp.Move{}, n: 1}
		none := arguments{s: stamp.Stamp{W: z[0], H: z[1]}, n: 1}
		if got, want := fmt.Sprint(callAll(full)...), fmt.Sprint(callAll(none)...); got != want {
			t.Errorf("with empty slices %s, with nil slices %s", got, want)
		}
	}
}
