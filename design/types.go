package design

import (
	"slices"
	"strconv"
	"strings"

	"canting/api"
)

const maxTypeNodes = 500

// The shapes of types, and as place in any graph the first three are these types.
const (
	intShape = iota
	boolShape
	maskShape
	variableShape
	arrowShape
	productShape
)

// typeNode is a type: of arrows and products with the places of their parts.
type typeNode struct {
	shape       int
	left, right int
	same        int // the place of a type that is the same, or its own
	level       int // of a variable: how many lets were open where the outermost name with it was bound
	walk        int // the last walk that came here
}

// graph has types at their places. Types may have parts in common, so that the trees that they stand for may be far larger.
type graph struct {
	nodes []typeNode
	walks int
}

func newGraph() *graph {
	g := &graph{}
	for shape := intShape; shape <= maskShape; shape++ {
		g.add(typeNode{shape: shape})
	}
	return g
}

func (g *graph) add(n typeNode) int {
	n.same = len(g.nodes)
	g.nodes = append(g.nodes, n)
	return n.same
}

func (g *graph) variable(level int) int {
	return g.add(typeNode{shape: variableShape, level: level})
}

func (g *graph) arrow(from, to int) int {
	return g.add(typeNode{shape: arrowShape, left: from, right: to})
}

func (g *graph) product(left, right int) int {
	return g.add(typeNode{shape: productShape, left: left, right: right})
}

// find returns the place that stands for all places of the same type.
func (g *graph) find(t int) int {
	for g.nodes[t].same != t {
		next := g.nodes[t].same
		g.nodes[t].same = g.nodes[next].same
		t = next
	}
	return t
}

// at returns the node that stands for a type.
func (g *graph) at(t int) typeNode {
	return g.nodes[g.find(t)]
}

// hasParts reports whether a type is an arrow or a product.
func (n typeNode) hasParts() bool {
	return n.shape == arrowShape || n.shape == productShape
}

// unify solves the equation of two types. It panics where that cannot be solved.
func (g *graph) unify(t, u int) {
	t, u = g.find(t), g.find(u)
	a, b := g.nodes[t], g.nodes[u]
	switch {
	case t == u:
		return
	case a.shape == variableShape:
		g.bind(t, u)
	case b.shape == variableShape:
		g.bind(u, t)
	case a.shape != b.shape:
		panic(api.ErrType)
	default:
		g.unify(a.left, b.left)
		g.unify(a.right, b.right)
		// Only now: before, a variable that is a part of itself might be missed.
		g.nodes[t].same = u
	}
}

// bind makes a variable the same as another type.
func (g *graph) bind(v, t int) {
	g.walks++
	g.lower(t, v)
	g.nodes[v].same = t
}

// lower sees to it that no variable of a type has a higher level than a variable that becomes that type. It panics if that variable is a part of the type.
func (g *graph) lower(t, v int) {
	t = g.find(t)
	n := &g.nodes[t]
	if n.walk == g.walks {
		return
	}
	n.walk = g.walks
	switch {
	case t == v:
		panic(api.ErrType)
	case n.shape == variableShape:
		n.level = min(n.level, g.nodes[v].level)
	case n.hasParts():
		g.lower(n.left, v)
		g.lower(n.right, v)
	}
}

// size returns how many nodes a type has as a tree, or any number above most if they are more.
func (g *graph) size(t, most int) int {
	n := g.at(t)
	if most < 1 || !n.hasParts() {
		return 1
	}
	size := 1 + g.size(n.left, most-1)
	if size > most {
		return size
	}
	return size + g.size(n.right, most-size)
}

// isSmall reports whether a type has at most 500 nodes as a tree.
func (g *graph) isSmall(t int) bool {
	return g.size(t, maxTypeNodes) <= maxTypeNodes
}

// text returns a type as a string. It must be small.
func (g *graph) text(t int) string {
	var b strings.Builder
	var variables []int
	var write func(t int)
	write = func(t int) {
		n := g.at(t)
		if !n.hasParts() {
			if n.shape == variableShape && !slices.Contains(variables, n.same) {
				variables = append(variables, n.same)
			}
			b.WriteString(nameOf(n.shape, slices.Index(variables, n.same)))
			return
		}
		b.WriteString("(")
		write(n.left)
		b.WriteString(signOf(n.shape))
		write(n.right)
		b.WriteString(")")
	}
	write(t)
	return b.String()
}

const (
	arrowSign   = " -> "
	productSign = " * "
)

func signOf(shape int) string {
	if shape == arrowShape {
		return arrowSign
	}
	return productSign
}

// nameOf returns the name of a type without parts: of a variable by its number.
func nameOf(shape, number int) string {
	switch shape {
	case intShape:
		return "int"
	case boolShape:
		return "bool"
	case maskShape:
		return "mask"
	}
	const letters = 26
	name := string(rune('a' + number%letters))
	if number >= letters {
		name += strconv.Itoa(number / letters)
	}
	return name
}
