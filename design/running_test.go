package design_test

import (
	"slices"
	"strconv"

	"canting/api"
	"canting/design"
)

func isValue(e design.Expr) bool {
	switch e.Kind {
	case kindNumber, kindTruth, kindMask, kindFunction:
		return true
	case kindPair:
		return isValue(e.Kids[0]) && isValue(e.Kids[1])
	}
	return false
}

// put returns e with a closed expression in place of a name.
func put(e design.Expr, x string, in design.Expr) design.Expr {
	if e.Kind == kindVariable && e.Name == x {
		return in
	}
	var kids []design.Expr
	for k, kid := range e.Kids {
		if !binds(e, k, x) {
			kid = put(kid, x, in)
		}
		kids = append(kids, kid)
	}
	e.Kids = kids
	return e
}

// stepOf follows the chapter.
func stepOf(e design.Expr) (next design.Expr, bad api.Errno) {
	if isValue(e) {
		return e, api.OK
	}
	if len(freeOf(e)) > 0 {
		return design.Expr{}, api.ErrNone
	}
	defer func() { bad = caught(recover()) }()
	made := once(e)
	if nodes(made) > 5000 || depth(made) > 500 {
		panic(failure(api.ErrSize))
	}
	return made, api.OK
}

func once(e design.Expr) design.Expr {
	inward := map[int]int{kindApplication: 2, kindOperator: len(e.Kids), kindPair: 2, kindLet: 1, kindChoice: 1}[e.Kind]
	for k := range inward {
		if !isValue(e.Kids[k]) {
			kids := slices.Clone(e.Kids)
			kids[k] = once(kids[k])
			e.Kids = kids
			return e
		}
	}
	switch f := e.Kids[0]; {
	case e.Kind == kindApplication && f.Kind == kindFunction:
		return put(f.Kids[0], f.Name, e.Kids[1])
	case e.Kind == kindLet:
		return put(e.Kids[1], e.Name, f)
	case e.Kind == kindRecursion:
		return put(e.Kids[1], e.Name, fn(e.Arg, rec(e.Name, e.Arg, f, f)))
	case e.Kind == kindChoice && f.Kind == kindTruth:
		return e.Kids[2-f.N]
	case e.Kind == kindOperator:
		return operated(e.Name, e.Kids)
	}
	panic(failure(api.ErrFault))
}

// runOf makes steps one after another.
func runOf(e design.Expr, fuel int) (design.Expr, int, api.Errno) {
	for done := 0; ; done++ {
		if isValue(e) {
			return e, done, api.OK
		}
		if done == fuel {
			return design.Expr{}, 0, api.ErrFuel
		}
		next, bad := stepOf(e)
		if bad != api.OK {
			return design.Expr{}, 0, bad
		}
		e = next
	}
}

// operated applies an operator to values.
func operated(operator string, v []design.Expr) design.Expr {
	types := operators[operator]
	kinds := map[string]int{"int": kindNumber, "bool": kindTruth, "mask": kindMask, "p": kindPair}
	var n []int
	var p []picture
	for k, x := range v {
		if x.Kind != kinds[types[k]] {
			panic(failure(api.ErrFault))
		}
		n = append(n, x.N)
		p = append(p, picture{})
		if x.Kind == kindMask {
			p[k] = pictureOf(x.Name)
		}
	}
	switch types[len(v)] {
	case "int":
		return num(numberBy(operator, n, p))
	case "bool":
		return truth(truthBy(operator, n, p))
	case "mask":
		return cloth(drawnBy(cellsBy(operator, n, p)).text())
	case "l":
		return v[0].Kids[0]
	}
	return v[0].Kids[1]
}

func numberBy(operator string, n []int, p []picture) int {
	var x int
	switch operator {
	case "+":
		x = n[0] + n[1]
	case "-":
		x = n[0] - n[1]
	case "*":
		x = n[0] * n[1]
	case "count":
		x = p[0].count()
	}
	if x < -1_000_000_000 || x > 1_000_000_000 {
		panic(failure(api.ErrRange))
	}
	return x
}

func truthBy(operator string, n []int, p []picture) bool {
	switch operator {
	case "=":
		return n[0] == n[1]
	case "<":
		return n[0] < n[1]
	case "not":
		return n[0] == 0
	}
	return p[0][modulo(n[1], 8)][modulo(n[2], 8)]
}

// cellsBy returns which cells an operator's mask has.
func cellsBy(operator string, n []int, p []picture) func(x, y int) bool {
	return map[string]func(x, y int) bool{
		"|":    func(x, y int) bool { return p[0][x][y] || p[1][x][y] },
		"&":    func(x, y int) bool { return p[0][x][y] && p[1][x][y] },
		"comp": func(x, y int) bool { return !p[0][x][y] },
		// The cell (a, b) comes to (7 - b, a).
		"turn":  func(x, y int) bool { return p[0][y][7-x] },
		"shift": func(x, y int) bool { return p[2][modulo(x-n[0], 8)][modulo(y-n[1], 8)] },
		"rect":  func(x, y int) bool { return n[0] <= x && x <= n[2] && n[1] <= y && y <= n[3] },
	}[operator]
}

// showOf follows the chapter.
func showOf(e design.Expr) string {
	switch e.Kind {
	case kindFunction:
		return "fn"
	case kindPair:
		return "(" + showOf(e.Kids[0]) + ", " + showOf(e.Kids[1]) + ")"
	}
	return printOf(e)
}

// codeOf follows the chapter.
func codeOf(e design.Expr, names ...string) []design.Instr {
	in := func(k int, more ...string) []design.Instr { return codeOf(e.Kids[k], slices.Concat(names, more)...) }
	switch e.Kind {
	case kindNumber, kindTruth, kindMask:
		return []design.Instr{{Op: e.Kind, N: e.N, Name: e.Name}}
	case kindVariable:
		slices.Reverse(names)
		n := slices.Index(names, e.Name)
		slices.Reverse(names)
		return []design.Instr{{Op: 3, N: n}}
	case kindFunction:
		return []design.Instr{{Op: 4, Body: in(0, e.Name)}}
	case kindLet:
		return slices.Concat(in(0), []design.Instr{{Op: 7}}, in(1, e.Name), []design.Instr{{Op: 8}})
	case kindRecursion:
		return slices.Concat([]design.Instr{{Op: 5, Body: in(0, e.Name, e.Arg)}, {Op: 7}}, in(1, e.Name), []design.Instr{{Op: 8}})
	case kindChoice:
		return append(in(0), design.Instr{Op: 9, Body: in(1), Other: in(2)})
	}
	var code []design.Instr
	for k := range e.Kids {
		code = append(code, in(k)...)
	}
	last := map[int]int{kindApplication: 6, kindOperator: 10, kindPair: 11}[e.Kind]
	return append(code, design.Instr{Op: last, Name: e.Name})
}

func sameCode(a, b []design.Instr) bool {
	return slices.EqualFunc(a, b, func(x, y design.Instr) bool {
		return x.Op == y.Op && x.N == y.N && x.Name == y.Name && sameCode(x.Body, y.Body) && sameCode(x.Other, y.Other)
	})
}

// thing is a value of the machine: an expression without functions, a closure, or a pair of things.
type thing struct {
	of          design.Expr
	body        []design.Instr
	around      []*thing
	recursive   bool
	left, right *thing
}

// engine runs code, each stretch as a call of its own.
type engine struct {
	left, used int
}

func (g *engine) run(code []design.Instr, around []*thing) *thing {
	var stack []*thing
	pop := func() *thing {
		x := stack[len(stack)-1]
		stack = stack[:len(stack)-1]
		return x
	}
	push := func(x *thing) { stack = append(stack, x) }
	for _, i := range code {
		if g.left == 0 {
			panic(failure(api.ErrFuel))
		}
		g.left--
		g.used++
		switch i.Op {
		case 0, 1, 2:
			push(&thing{of: design.Expr{Kind: i.Op, N: i.N, Name: i.Name}})
		case 3:
			push(around[len(around)-1-i.N])
		case 4, 5:
			push(&thing{of: design.Expr{Kind: kindFunction}, body: i.Body, around: slices.Clone(around), recursive: i.Op == 5})
		case 6:
			a, f := pop(), pop()
			push(g.applied(f, a))
		case 7:
			around = append(slices.Clip(around), pop())
		case 8:
			around = around[:len(around)-1]
		case 9:
			c := pop().of
			if c.Kind != kindTruth {
				panic(failure(api.ErrFault))
			}
			push(g.run([][]design.Instr{i.Other, i.Body}[c.N], around))
		case 10:
			n := len(operators[i.Name]) - 1
			push(operatedThings(i.Name, stack[len(stack)-n:]))
			last := pop()
			stack = append(stack[:len(stack)-n], last)
		case 11:
			r, l := pop(), pop()
			push(&thing{of: design.Expr{Kind: kindPair}, left: l, right: r})
		}
	}
	if len(stack) != 1 {
		panic("the code leaves " + strconv.Itoa(len(stack)) + " values")
	}
	return stack[0]
}

func (g *engine) applied(f, a *thing) *thing {
	if f.of.Kind != kindFunction {
		panic(failure(api.ErrFault))
	}
	around := slices.Clone(f.around)
	if f.recursive {
		around = append(around, f)
	}
	return g.run(f.body, append(around, a))
}

func operatedThings(operator string, l []*thing) *thing {
	var v []design.Expr
	for _, x := range l {
		v = append(v, x.of)
	}
	if t := operators[operator][0]; t == "p" {
		if l[0].of.Kind != kindPair {
			panic(failure(api.ErrFault))
		}
		return map[string]*thing{"fst": l[0].left, "snd": l[0].right}[operator]
	}
	return &thing{of: operated(operator, v)}
}

// size returns the size of a thing as a tree.
func (x *thing) size(known map[*thing]int) int {
	if x.left == nil {
		return 1
	}
	if n, ok := known[x]; ok {
		return n
	}
	known[x] = min(1+x.left.size(known)+x.right.size(known), 1_000_000)
	return known[x]
}

func (x *thing) show() string {
	if x.left == nil {
		return showOf(x.of)
	}
	return "(" + x.left.show() + ", " + x.right.show() + ")"
}

// execOf runs code, and tells how many instructions it took (with an error: so far).
func execOf(code []design.Instr, fuel int) (text string, used int, bad api.Errno) {
	g := &engine{left: fuel}
	defer func() {
		bad = caught(recover())
		used = g.used
	}()
	x := g.run(code, nil)
	if x.size(map[*thing]int{}) > 5000 {
		panic(failure(api.ErrSize))
	}
	return x.show(), 0, api.OK
}
