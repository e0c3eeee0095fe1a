package mask_test

import (
	"fmt"
	"reflect"
	"testing"

	"canting/api"
	"canting/mask"
)

// arguments are those of all functions.
type arguments struct {
	f, g, h  mask.Mask
	set      []int
	perm     []int
	table    []bool
	p        int
	variable int
	text     string
}

func ruleArguments() []arguments {
	var out []arguments
	for _, n := range []int{2, 4, 6} {
		tables := someTables(n)
		for i, table := range tables {
			f, g, h := canonical(table), canonical(tables[(i+3)%len(tables)]), canonical(tables[(i+8)%len(tables)])
			perm := []int{1, 0, 3, 2, 5, 4}[:n:n]
			out = append(out, arguments{f, g, h, []int{1, 0}, perm, table, i % (1 << n), i % n, written(f)})
			same := []int{0, 1, 2, 3, 4, 5}[:n:n]
			out = append(out, arguments{f, f, f, nil, same, table, 0, 0, "2 1?0:1 1?1:0"})
		}
	}
	return out
}

// callAll calls every function and returns all results.
func callAll(l arguments) []any {
	f, g, h := l.f, l.g, l.h
	var out []any
	keep := func(x any, e api.Errno) { out = append(out, x, e) }
	out = append(out, mask.Valid(f))
	for _, call := range []func() (mask.Mask, api.Errno){
		func() (mask.Mask, api.Errno) { return mask.Const(f.Vars, true) },
		func() (mask.Mask, api.Errno) { return mask.Var(f.Vars, l.variable) },
		func() (mask.Mask, api.Errno) { return mask.Not(f) },
		func() (mask.Mask, api.Errno) { return mask.And(f, g) },
		func() (mask.Mask, api.Errno) { return mask.Or(f, g) },
		func() (mask.Mask, api.Errno) { return mask.Xor(f, g) },
		func() (mask.Mask, api.Errno) { return mask.Ite(f, g, h) },
		func() (mask.Mask, api.Errno) { return mask.Restrict(f, l.variable, true) },
		func() (mask.Mask, api.Errno) { return mask.Exists(f, l.set) },
		func() (mask.Mask, api.Errno) { return mask.Forall(f, l.set) },
		func() (mask.Mask, api.Errno) { return mask.Compose(f, l.variable, g) },
		func() (mask.Mask, api.Errno) { return mask.FromTable(l.table) },
		func() (mask.Mask, api.Errno) { return mask.Reorder(f, l.perm) },
		func() (mask.Mask, api.Errno) { return mask.Read(l.text) },
		func() (mask.Mask, api.Errno) { return mask.Rect(2, 0, 1, 3, 2) },
		func() (mask.Mask, api.Errno) { return mask.Shift(f, 0, 0) },
		func() (mask.Mask, api.Errno) { return mask.Shift(f, 1, -1) },
		func() (mask.Mask, api.Errno) { return mask.Turn(f) },
	} {
		m, e := call()
		keep(m, e)
	}
	keep(any2(mask.At(f, l.p)))
	keep(any2(mask.Count(f)))
	keep(any2(mask.Next(f, l.p)))
	keep(any2(mask.Nth(f, l.p)))
	keep(any2(mask.Support(f)))
	keep(any2(mask.Table(f)))
	keep(any2(mask.Paths(f)))
	keep(any2(mask.Least(f)))
	keep(any2(mask.Best(f)))
	keep(any2(mask.Text(f)))
	keep(any2(mask.Cell(2, 1, 3)))
	return out
}

func any2[T any](x T, e api.Errno) (any, api.Errno) {
	return x, e
}

// spoil overwrites all elements of the slices in a value, with the room behind them, and calls meet with the address of each.
func spoil(v reflect.Value, meet func(address uintptr)) {
	switch v.Kind() {
	case reflect.Interface:
		spoil(v.Elem(), meet)
	case reflect.Slice:
		whole := v.Slice(0, v.Cap())
		for i := range whole.Len() {
			element := whole.Index(i)
			switch element.Kind() {
			case reflect.Slice, reflect.Interface:
				spoil(element, meet)
			default:
				meet(element.Addr().Pointer())
				element.SetZero()
			}
		}
	case reflect.Struct:
		for i := range v.NumField() {
			spoil(v.Field(i), meet)
		}
	}
}

// TestRules checks that no argument is changed, that the same calls give the same results, and that results share memory neither with arguments nor with each other.
func TestRules(t *testing.T) {
	for i, l := range ruleArguments() {
		first := callAll(l)
		if !reflect.DeepEqual(l, ruleArguments()[i]) {
			t.Fatalf("arguments %d have changed", i)
		}
		text := fmt.Sprint(first...)
		if again := fmt.Sprint(callAll(l)...); again != text {
			t.Errorf("arguments %d: %s, then %s", i, text, again)
		}
		met := map[uintptr]bool{}
		meet := func(address uintptr) {
			if met[address] {
				t.Errorf("arguments %d: memory is shared", i)
			}
			met[address] = true
		}
		spoil(reflect.ValueOf(first), meet)
		if !reflect.DeepEqual(l, ruleArguments()[i]) {
			t.Fatalf("arguments %d share memory with results", i)
		}
		if again := fmt.Sprint(callAll(l)...); again != text {
			t.Errorf("arguments %d: later results depend on what becomes of earlier ones", i)
		}
	}
}

// TestNilSlices checks that nil and empty slices are the same as arguments.
func TestNilSlices(t *testing.T) {
	for _, root := range []int{0, 1} {
		for _, n := range []int{0, 4} {
			full := mask.Mask{Vars: n, Nodes: []mask.Node{}, Root: root}
			none := mask.Mask{Vars: n, Root: root}
			table := make([]bool, 1<<n)
			with := callAll(arguments{full, full, full, []int{}, []int{}, table, 0, 0, ""})
			without := callAll(arguments{none, none, none, nil, nil, table, 0, 0, ""})
			if got, want := fmt.Sprint(with...), fmt.Sprint(without...); got != want {
				t.Errorf("with empty slices %s, with nil slices %s", got, want)
			}
		}
	}
}
