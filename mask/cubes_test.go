package mask_test

import (
	"math/rand"
	"slices"
	"testing"

	"canting/api"
	"canting/mask"
)

// pathsOf returns the cubes of the ways through a table: equal halves are not asked.
func pathsOf(table []bool) [][]int {
	if len(table) == 1 {
		if table[0] {
			return [][]int{{}}
		}
		return nil
	}
	low, high := table[:len(table)/2], table[len(table)/2:]
	if slices.Equal(low, high) {
		return inFront(2, pathsOf(low))
	}
	return append(inFront(0, pathsOf(low)), inFront(1, pathsOf(high))...)
}

func inFront(element int, cubes [][]int) [][]int {
	var out [][]int
	for _, cube := range cubes {
		out = append(out, append([]int{element}, cube...))
	}
	return out
}

func sameCubes(a, b [][]int) bool {
	return slices.EqualFunc(a, b, slices.Equal)
}

func TestP2_6_Paths(t *testing.T) {
	check := func(table []bool) {
		t.Helper()
		f := canonical(table)
		if got, e := mask.Paths(f); !sameCubes(got, pathsOf(table)) || e != api.OK {
			t.Fatalf("Paths(%v): %v, error %d, want %v", short(f), got, e, pathsOf(table))
		}
	}
	for n := range 4 {
		for _, table := range allTables(n) {
			check(table)
		}
	}
	for n := range 13 {
		for _, table := range someTables(n) {
			check(table)
		}
	}
}

// least looks for the widest cube among all cubes; only is where the function is true.
func least(table []bool) []int {
	n := variables(table)
	inside := cubesInside(table)
	var best []int
	widest := -1
	for number, in := range inside {
		if !in {
			continue
		}
		cube := make([]int, n)
		wide := 0
		for i := n - 1; i >= 0; i-- {
			cube[i] = number % 3
			number /= 3
			if cube[i] == 2 {
				wide++
			}
		}
		if wide > widest {
			best, widest = cube, wide
		}
	}
	return best
}

// cubesInside tells for each cube whether all its points are those of the function; the cubes are counted by three, variable 0 first.
func cubesInside(table []bool) []bool {
	if len(table) == 1 {
		return table
	}
	low := cubesInside(table[:len(table)/2])
	high := cubesInside(table[len(table)/2:])
	both := make([]bool, len(low))
	for i := range both {
		both[i] = low[i] && high[i]
	}
	return slices.Concat(low, high, both)
}

func checkLeast(t *testing.T, table []bool) {
	t.Helper()
	f := canonical(table)
	got, e := mask.Least(f)
	if f.Root == 0 {
		if e != api.ErrNone || len(got) != 0 {
			t.Fatalf("Least without points: %v, error %d", got, e)
		}
		return
	}
	if want := least(table); e != api.OK || !slices.Equal(got, want) {
		t.Fatalf("Least(%v): %v, error %d, want %v", short(f), got, e, want)
	}
}

func TestP2_6_Least(t *testing.T) {
	for n := range 4 {
		for _, table := range allTables(n) {
			checkLeast(t, table)
		}
	}
	for n := range 13 {
		for i, table := range someTables(n) {
			if n < 11 || i%3 == 0 {
				checkLeast(t, table)
			}
		}
	}
	r := rand.New(rand.NewSource(6))
	for range 1000 {
		n := 3 + r.Intn(4)
		checkLeast(t, randomTable(r, n, 0.3+0.65*r.Float64()))
		checkLeast(t, cubesTable(r, n, 1+r.Intn(4)))
	}
	checkLeast(t, randomTable(r, 12, 0.97))
}
