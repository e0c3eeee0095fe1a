package design

import (
	"strings"

	"canting/api"
)

const maxType = 5000 // bytes

// Instance reports whether a type is an instance of another one.
func Instance(t, u string) (bool, api.Errno) {
	return attempt(func() bool {
		g := newGraph()
		general := g.read(t)
		special := g.read(u)
		return g.matches(general, special, map[int]int{})
	})
}

// read returns the type of a string. It panics if Infer does not print it.
func (g *graph) read(s string) int {
	if len(s) > maxType {
		panic(api.ErrForm)
	}
	r := typeReader{g, s, map[string]int{}}
	t := r.read()
	if !g.isSmall(t) || g.text(t) != s {
		panic(api.ErrForm)
	}
	return t
}

// typeReader has what is still to be read of a string, and the variables that it has met.
type typeReader struct {
	*graph
	left      string
	variables map[string]int
}

// skip passes over a text if that is next, and tells whether it was.
func (r *typeReader) skip(text string) bool {
	rest, ok := strings.CutPrefix(r.left, text)
	r.left = rest
	return ok
}

// read returns the type that is next. Where there is none it returns some type: what is written then has another text.
func (r *typeReader) read() int {
	if !r.skip("(") {
		return r.readName()
	}
	left := r.read()
	isArrow := r.skip(arrowSign)
	if !isArrow {
		r.skip(productSign)
	}
	right := r.read()
	r.skip(")")
	if isArrow {
		return r.arrow(left, right)
	}
	return r.product(left, right)
}

func (r *typeReader) readName() int {
	n := run(r.left, isNameByte)
	name := r.left[:n]
	r.left = r.left[n:]
	for shape := intShape; shape <= maskShape; shape++ {
		if name == nameOf(shape, 0) {
			return shape
		}
	}
	t, known := r.variables[name]
	if !known {
		t = r.variable(0)
		r.variables[name] = t
	}
	return t
}

// matches reports whether u is t with some types in place of variables: those that are put, and those that it then puts.
func (g *graph) matches(t, u int, put map[int]int) bool {
	a, b := g.nodes[t], g.nodes[u]
	if a.shape == variableShape {
		if was, known := put[t]; known {
			return g.equal(was, u)
		}
		put[t] = u
		return true
	}
	return a.shape == b.shape && (!a.hasParts() || g.matches(a.left, b.left, put) && g.matches(a.right, b.right, put))
}

// equal reports whether two types are the same, with the same variables.
func (g *graph) equal(t, u int) bool {
	a, b := g.nodes[t], g.nodes[u]
	if !a.hasParts() || a.shape != b.shape {
		return t == u
	}
	return g.equal(a.left, b.left) && g.equal(a.right, b.right)
}
