package bath_test

import (
	"math"
	"math/rand"
	"slices"
	"testing"

	"canting/api"
	"canting/bath"
)

// tourLength follows the definition of the length of a tour.
func tourLength(d [][]int, tour []int) int {
	length := 0
	for k, i := range tour {
		length += d[i][tour[(k+1)%len(tour)]]
	}
	return length
}

func TestP5_6_Tour(t *testing.T) {
	for _, d := range distances() {
		var want []int
		permutations(len(d), []int{0}, func(tour []int) {
			if want == nil || tourLength(d, tour) < tourLength(d, want) {
				want = tour
			}
		})
		if got, e := bath.Tour(d); e != api.OK || !slices.Equal(got, want) {
			t.Errorf("Tour(%v): %v, %v, want %v", d, got, e, want)
		}
	}
}

// trees calls do with the edges of each tree that connects some nodes: the trees of all sequences of the nodes that have two nodes less, as Pruefer found.
func trees(nodes []int, sequence []int, do func(edges [][2]int)) {
	if len(sequence) < len(nodes)-2 {
		for _, i := range nodes {
			trees(nodes, append(slices.Clone(sequence), i), do)
		}
		return
	}
	var edges [][2]int
	left := slices.Clone(nodes)
	for k, i := range sequence {
		leaf := slices.IndexFunc(left, func(j int) bool { return !slices.Contains(sequence[k:], j) })
		edges = append(edges, [2]int{left[leaf], i})
		left = slices.Delete(left, leaf, leaf+1)
	}
	do(append(edges, [2]int{left[0], left[1]}))
}

// oneTree follows the definition of Tree.
func oneTree(d [][]int, pi []int) int {
	n := len(d)
	distance := func(i, j int) int { return d[i][j] + pi[i] + pi[j] }
	var nodes []int
	for i := 1; i < n; i++ {
		nodes = append(nodes, i)
	}
	least := math.MaxInt
	trees(nodes, nil, func(edges [][2]int) {
		length := 0
		for _, e := range edges {
			length += distance(e[0], e[1])
		}
		least = min(least, length)
	})
	two := math.MaxInt
	for _, i := range nodes {
		for _, j := range nodes {
			if i != j {
				two = min(two, distance(0, i)+distance(0, j))
			}
		}
	}
	sum := 0
	for _, x := range pi {
		sum += x
	}
	return least + two - 2*sum
}

// randomPi returns n numbers from -most to most.
func randomPi(r *rand.Rand, n, most int) []int {
	var pi []int
	for range n {
		pi = append(pi, r.Intn(2*most+1)-most)
	}
	return pi
}

func TestP5_6_Tree(t *testing.T) {
	r := rand.New(rand.NewSource(81))
	for _, d := range distances() {
		n := len(d)
		if n > 7 {
			continue
		}
		for _, pi := range [][]int{make([]int, n), randomPi(r, n, 2), randomPi(r, n, 500), randomPi(r, n, 10000), slices.Repeat([]int{10000}, n), slices.Repeat([]int{-10000}, n)} {
			if got, e := bath.Tree(d, pi); got != oneTree(d, pi) || e != api.OK {
				t.Errorf("Tree(%v, %v): %d, %v, want %d", d, pi, got, e, oneTree(d, pi))
			}
		}
	}
}

// TestP5_6_TreeOfNine lists the 262,144 trees of eight nodes.
func TestP5_6_TreeOfNine(t *testing.T) {
	r := rand.New(rand.NewSource(82))
	d, pi := randomDistances(r, 9, 1000), randomPi(r, 9, 300)
	if got, e := bath.Tree(d, pi); got != oneTree(d, pi) || e != api.OK {
		t.Errorf("Tree(%v, %v): %d, %v, want %d", d, pi, got, e, oneTree(d, pi))
	}
}

func TestP5_6_Errors(t *testing.T) {
	bad := badDistances()
	for _, what := range sorted(bad) {
		if x, e := bath.Tour(bad[what]); len(x) != 0 || e != api.ErrArg {
			t.Errorf("Tour, %s: %v, %v", what, x, e)
		}
		for _, pi := range [][]int{nil, make([]int, 3), {0, 10001, 0}, make([]int, len(bad[what]))} {
			if n, e := bath.Tree(bad[what], pi); n != 0 || e != api.ErrArg {
				t.Errorf("Tree, %s: %d, %v", what, n, e)
			}
		}
	}
	d := distances()[0]
	for _, n := range []int{0, 1, 2, 4, 9, 100000} {
		for _, x := range []int{0, 10001, math.MinInt} { // a slice of another length is not examined further
			if got, e := bath.Tree(d, slices.Repeat([]int{x}, n)); got != 0 || e != api.ErrSize {
				t.Errorf("Tree with %d elements %d: %d, %v", n, x, got, e)
			}
		}
	}
	for at := range 3 {
		for _, x := range []int{10001, -10001, math.MaxInt, math.MinInt} {
			pi := []int{0, 0, 0}
			pi[at] = x
			if got, e := bath.Tree(d, pi); got != 0 || e != api.ErrArg {
				t.Errorf("Tree with %v: %d, %v", pi, got, e)
			}
		}
	}
}
