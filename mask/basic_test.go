package mask_test

import (
	"math"
	"math/rand"
	"slices"
	"testing"

	"canting/api"
	"canting/mask"
)

func TestP2_1_ValidMasks(t *testing.T) {
	for n := range 4 {
		for _, table := range allTables(n) {
			if f := canonical(table); !mask.Valid(f) {
				t.Errorf("not valid: %v", f)
			}
		}
	}
	for n := range 13 {
		for _, table := range someTables(n) {
			if f := canonical(table); !mask.Valid(f) {
				t.Errorf("not valid: %v", short(f))
			}
		}
	}
	if !mask.Valid(mask.Mask{Vars: 3, Nodes: []mask.Node{}, Root: 1}) {
		t.Error("an empty slice of nodes is as good as nil")
	}
}

func TestP2_1_InvalidMasks(t *testing.T) {
	for what, f := range invalid() {
		if mask.Valid(f) {
			t.Errorf("valid, with %s: %v", what, short(f))
		}
	}
}

// TestP2_1_AllSmall checks all masks that have up to three nodes with one variable too many: just those of functions are valid.
func TestP2_1_AllSmall(t *testing.T) {
	for n := range 4 {
		want := map[int]int{}
		for _, table := range allTables(n) {
			want[len(canonical(table).Nodes)]++
		}
		for count := 1; count <= 3; count++ {
			got := 0
			f := mask.Mask{Vars: n, Root: count + 1}
			eachNodes(&f, count, func() {
				if mask.Valid(f) {
					got++
				}
			})
			if got != want[count] {
				t.Errorf("%d masks of %d variables with %d nodes are valid, want %d", got, n, count, want[count])
			}
		}
	}
}

// eachNodes tries all slices of that many nodes with places that are not above the node's own.
func eachNodes(f *mask.Mask, count int, try func()) {
	if len(f.Nodes) == count {
		try()
		return
	}
	places := len(f.Nodes) + 3
	for v := range f.Vars + 1 {
		for low := range places {
			for high := range places {
				f.Nodes = append(f.Nodes, mask.Node{Var: v, Low: low, High: high})
				eachNodes(f, count, try)
				f.Nodes = f.Nodes[:len(f.Nodes)-1]
			}
		}
	}
}

// TestP2_1_Renumbered checks that the nodes of a large mask are in no other order valid.
func TestP2_1_Renumbered(t *testing.T) {
	r := rand.New(rand.NewSource(1))
	f := canonical(randomTable(r, 12, 0.5))
	tried := 0
	for k := 1; k < len(f.Nodes); k++ {
		above, below := f.Nodes[k], f.Nodes[k-1]
		if above.Low == k+1 || above.High == k+1 {
			continue
		}
		g := mask.Mask{Vars: 12, Root: f.Root}
		swap := func(place int) int {
			switch place {
			case k + 1:
				return k + 2
			case k + 2:
				return k + 1
			}
			return place
		}
		for _, node := range f.Nodes {
			g.Nodes = append(g.Nodes, mask.Node{Var: node.Var, Low: swap(node.Low), High: swap(node.High)})
		}
		g.Nodes[k-1], g.Nodes[k] = above, below
		tried++
		if mask.Valid(g) {
			t.Fatalf("valid with the places %d and %d in the other order", k+1, k+2)
		}
	}
	if tried == 0 {
		t.Error("nothing was tried")
	}
}

func TestP2_1_Const(t *testing.T) {
	for n := range 13 {
		for _, b := range []bool{false, true} {
			f, e := mask.Const(n, b)
			wantMask(t, f, e, tableBy(n, func(int) bool { return b }), "Const", n, b)
		}
	}
	for _, n := range []int{-1, 13, 64, math.MinInt, math.MaxInt} {
		if f, e := mask.Const(n, true); e != api.ErrArg || !isZero(f) {
			t.Errorf("Const(%d): %v, error %d", n, f, e)
		}
	}
}

func TestP2_1_Var(t *testing.T) {
	for n := range 13 {
		for i := range n {
			f, e := mask.Var(n, i)
			wantMask(t, f, e, tableBy(n, func(p int) bool { return bit(p, i, n) }), "Var", n, i)
		}
	}
	bad := [][2]int{{0, 0}, {1, 1}, {3, -1}, {3, 3}, {12, 12}, {13, 0}, {13, 12}, {-1, 0}, {-1, -2}, {3, math.MinInt}, {3, math.MaxInt}, {math.MaxInt, 5}, {math.MinInt, math.MinInt}}
	for _, l := range bad {
		if f, e := mask.Var(l[0], l[1]); e != api.ErrArg || !isZero(f) {
			t.Errorf("Var(%d, %d): %v, error %d", l[0], l[1], f, e)
		}
	}
}

// operations are the functions of two masks with what they do to values.
var operations = map[string]struct {
	call func(f, g mask.Mask) (mask.Mask, api.Errno)
	rule func(a, b bool) bool
}{
	"And": {mask.And, func(a, b bool) bool { return a && b }},
	"Or":  {mask.Or, func(a, b bool) bool { return a || b }},
	"Xor": {mask.Xor, func(a, b bool) bool { return a != b }},
}

func checkNot(t *testing.T, a []bool) {
	t.Helper()
	f, e := mask.Not(canonical(a))
	wantMask(t, f, e, tableBy(variables(a), func(p int) bool { return !a[p] }), "Not")
}

func checkTwo(t *testing.T, a, b []bool) {
	t.Helper()
	for name, operation := range operations {
		f, e := operation.call(canonical(a), canonical(b))
		wantMask(t, f, e, tableBy(variables(a), func(p int) bool { return operation.rule(a[p], b[p]) }), name)
	}
}

func checkIte(t *testing.T, a, b, c []bool) {
	t.Helper()
	rule := func(p int) bool {
		if a[p] {
			return b[p]
		}
		return c[p]
	}
	f, e := mask.Ite(canonical(a), canonical(b), canonical(c))
	wantMask(t, f, e, tableBy(variables(a), rule), "Ite")
}

func TestP2_2_AllOfTwo(t *testing.T) {
	for n := range 3 {
		for _, a := range allTables(n) {
			checkNot(t, a)
			for _, b := range allTables(n) {
				checkTwo(t, a, b)
				for _, c := range allTables(n) {
					checkIte(t, a, b, c)
				}
			}
		}
	}
}

func TestP2_2_Larger(t *testing.T) {
	r := rand.New(rand.NewSource(2))
	for _, n := range sizes {
		tables := someTables(n)
		for _, a := range tables {
			checkNot(t, a)
			b, c := tables[r.Intn(len(tables))], tables[r.Intn(len(tables))]
			checkTwo(t, a, b)
			checkIte(t, a, b, c)
			checkIte(t, c, a, a)
			checkIte(t, a, a, c)
			checkIte(t, a, b, a)
		}
	}
	for range 300 {
		n := 3 + r.Intn(3)
		checkTwo(t, randomTable(r, n, 0.5), randomTable(r, n, r.Float64()))
		checkIte(t, randomTable(r, n, 0.5), randomTable(r, n, r.Float64()), cubesTable(r, n, 2))
	}
}

// maskCalls are all calls with masks; each returns the error and whether the result is zero.
type maskCall func(f mask.Mask) (e api.Errno, zero bool)

func maskResult(f mask.Mask, e api.Errno) (api.Errno, bool) { return e, isZero(f) }
func listResult[T any](l []T, e api.Errno) (api.Errno, bool) {
	return e, len(l) == 0
}
func plainResult[T comparable](x T, e api.Errno) (api.Errno, bool) {
	var zero T
	return e, x == zero
}

func maskCalls() map[string]maskCall {
	v, _ := mask.Var(2, 1)
	c, _ := mask.Const(2, true)
	calls := map[string]maskCall{
		"Not":      func(f mask.Mask) (api.Errno, bool) { return maskResult(mask.Not(f)) },
		"Ite 1":    func(f mask.Mask) (api.Errno, bool) { return maskResult(mask.Ite(f, v, c)) },
		"Ite 2":    func(f mask.Mask) (api.Errno, bool) { return maskResult(mask.Ite(c, f, v)) },
		"Ite 3":    func(f mask.Mask) (api.Errno, bool) { return maskResult(mask.Ite(c, v, f)) },
		"At":       func(f mask.Mask) (api.Errno, bool) { return plainResult(mask.At(f, 0)) },
		"Count":    func(f mask.Mask) (api.Errno, bool) { return plainResult(mask.Count(f)) },
		"Next":     func(f mask.Mask) (api.Errno, bool) { return plainResult(mask.Next(f, 0)) },
		"Nth":      func(f mask.Mask) (api.Errno, bool) { return plainResult(mask.Nth(f, 0)) },
		"Restrict": func(f mask.Mask) (api.Errno, bool) { return maskResult(mask.Restrict(f, 0, true)) },
		"Exists":   func(f mask.Mask) (api.Errno, bool) { return maskResult(mask.Exists(f, []int{0, 1})) },
		"Forall":   func(f mask.Mask) (api.Errno, bool) { return maskResult(mask.Forall(f, nil)) },
		"Compose 1": func(f mask.Mask) (api.Errno, bool) {
			return maskResult(mask.Compose(f, 0, v))
		},
		"Compose 2": func(f mask.Mask) (api.Errno, bool) {
			return maskResult(mask.Compose(v, 0, f))
		},
		"Support": func(f mask.Mask) (api.Errno, bool) { return listResult(mask.Support(f)) },
		"Table":   func(f mask.Mask) (api.Errno, bool) { return listResult(mask.Table(f)) },
		"Paths":   func(f mask.Mask) (api.Errno, bool) { return listResult(mask.Paths(f)) },
		"Least":   func(f mask.Mask) (api.Errno, bool) { return listResult(mask.Least(f)) },
		"Reorder": func(f mask.Mask) (api.Errno, bool) { return maskResult(mask.Reorder(f, []int{1, 0})) },
		"Best":    func(f mask.Mask) (api.Errno, bool) { return listResult(mask.Best(f)) },
		"Text":    func(f mask.Mask) (api.Errno, bool) { return plainResult(mask.Text(f)) },
		"Shift":   func(f mask.Mask) (api.Errno, bool) { return maskResult(mask.Shift(f, 1, 1)) },
		"Turn":    func(f mask.Mask) (api.Errno, bool) { return maskResult(mask.Turn(f)) },
	}
	for name, operation := range operations {
		calls[name+" 1"] = func(f mask.Mask) (api.Errno, bool) { return maskResult(operation.call(f, v)) }
		calls[name+" 2"] = func(f mask.Mask) (api.Errno, bool) { return maskResult(operation.call(c, f)) }
	}
	return calls
}

// TestErrArg checks that every function answers every invalid mask with ErrArg, before all other errors.
func TestErrArg(t *testing.T) {
	valid := nodes(2, [3]int{1, 0, 1}, [3]int{0, 0, 2})
	for name, call := range maskCalls() {
		if e, _ := call(valid); e != api.OK {
			t.Errorf("%s of a valid mask: error %d", name, e)
		}
		for what, f := range invalid() {
			if e, zero := call(f); e != api.ErrArg || !zero {
				t.Errorf("%s of a mask with %s: error %d, zero %v", name, what, e, zero)
			}
		}
	}
}

// TestOtherVars checks that masks with other Vars are not valid together.
func TestOtherVars(t *testing.T) {
	calls := maskCalls()
	for _, name := range []string{"Ite 1", "Ite 2", "Ite 3", "Compose 1", "Compose 2", "And 1", "And 2", "Or 1", "Or 2", "Xor 1", "Xor 2"} {
		for _, n := range []int{0, 1, 3, 12} {
			for _, b := range []bool{false, true} {
				f, _ := mask.Const(n, b)
				if e, zero := calls[name](f); e != api.ErrArg || !zero {
					t.Errorf("%s with %d variables: error %d, zero %v", name, n, e, zero)
				}
			}
		}
	}
}

func TestP2_3_At(t *testing.T) {
	for _, n := range sizes {
		for _, table := range someTables(n) {
			f := canonical(table)
			for p, want := range table {
				if got, e := mask.At(f, p); got != want || e != api.OK {
					t.Fatalf("At(%v, %d): %v, error %d", short(f), p, got, e)
				}
				if n == 12 {
					break
				}
			}
		}
	}
	always, _ := mask.Const(2, true)
	for _, p := range []int{-1, 4, 5, 1 << 12, math.MinInt, math.MaxInt} {
		if b, e := mask.At(always, p); b || e != api.ErrArg {
			t.Errorf("At point %d: %v, error %d", p, b, e)
		}
	}
}

// pointsOf returns the points of a table.
func pointsOf(table []bool) []int {
	var out []int
	for p, b := range table {
		if b {
			out = append(out, p)
		}
	}
	return out
}

func TestP2_3_Count(t *testing.T) {
	for _, n := range sizes {
		for _, table := range someTables(n) {
			f := canonical(table)
			if got, e := mask.Count(f); got != len(pointsOf(table)) || e != api.OK {
				t.Errorf("Count(%v): %d, error %d, want %d", short(f), got, e, len(pointsOf(table)))
			}
		}
	}
}

func checkNext(t *testing.T, f mask.Mask, points []int, p int) {
	t.Helper()
	k, _ := slices.BinarySearch(points, p)
	got, e := mask.Next(f, p)
	if k == len(points) {
		if got != 0 || e != api.ErrNone {
			t.Fatalf("Next(%v, %d): %d, error %d, want ErrNone", short(f), p, got, e)
		}
	} else if got != points[k] || e != api.OK {
		t.Fatalf("Next(%v, %d): %d, error %d, want %d", short(f), p, got, e, points[k])
	}
}

func checkNth(t *testing.T, f mask.Mask, points []int, k int) {
	t.Helper()
	got, e := mask.Nth(f, k)
	if k >= len(points) {
		if got != 0 || e != api.ErrNone {
			t.Fatalf("Nth(%v, %d): %d, error %d, want ErrNone", short(f), k, got, e)
		}
	} else if got != points[k] || e != api.OK {
		t.Fatalf("Nth(%v, %d): %d, error %d, want %d", short(f), k, got, e, points[k])
	}
}

func TestP2_3_NextAndNth(t *testing.T) {
	for _, n := range sizes {
		stride := 1
		if n == 12 {
			stride = 97
		}
		for _, table := range someTables(n) {
			f, points := canonical(table), pointsOf(table)
			for p := 0; p < len(table); p += stride {
				checkNext(t, f, points, p)
				checkNth(t, f, points, p)
			}
			checkNext(t, f, points, len(table)-1)
			for _, k := range []int{max(len(points), 1) - 1, len(points), len(table), len(table) + 1, math.MaxInt} {
				checkNth(t, f, points, k)
			}
		}
	}
}

func TestP2_3_NextAndNthInvalid(t *testing.T) {
	for _, b := range []bool{false, true} {
		f, _ := mask.Const(2, b)
		for _, p := range []int{-1, 4, 1 << 12, math.MinInt, math.MaxInt} {
			if got, e := mask.Next(f, p); got != 0 || e != api.ErrArg {
				t.Errorf("Next from %d: %d, error %d", p, got, e)
			}
		}
		for _, k := range []int{-1, math.MinInt} {
			if got, e := mask.Nth(f, k); got != 0 || e != api.ErrArg {
				t.Errorf("Nth %d: %d, error %d", k, got, e)
			}
		}
	}
}

func TestP2_5_Table(t *testing.T) {
	for n := range 13 {
		for _, table := range someTables(n) {
			if got, e := mask.Table(canonical(table)); !slices.Equal(got, table) || e != api.OK {
				t.Fatalf("another table of %d variables, error %d", n, e)
			}
		}
	}
}

func TestP2_5_FromTable(t *testing.T) {
	for n := range 4 {
		for _, table := range allTables(n) {
			f, e := mask.FromTable(table)
			wantMask(t, f, e, table, "FromTable")
		}
	}
	for n := range 13 {
		for _, table := range someTables(n) {
			f, e := mask.FromTable(table)
			wantMask(t, f, e, table, "FromTable")
		}
	}
	for _, size := range []int{0, 3, 5, 6, 7, 9, 12, 100, 4095, 4097, 6144, 8192, 1 << 20} {
		if f, e := mask.FromTable(make([]bool, size)); e != api.ErrArg || !isZero(f) {
			t.Errorf("FromTable of %d: %v, error %d", size, f, e)
		}
	}
	if f, e := mask.FromTable(nil); e != api.ErrArg || !isZero(f) {
		t.Errorf("FromTable(nil): %v, error %d", f, e)
	}
}
