package design

import (
	"slices"
	"strconv"

	"canting/api"
)

// isCode reports whether c is the code of an expression without free variables.
func isCode(c []Instr) bool {
	e, bad := attempt(func() Expr {
		d := decoder{maxCode}
		return d.expression(c, nil)
	})
	// Whatever the decoder passes over, the code of what it finds does not have.
	return bad == api.OK && valid(e) && sameCode(codeOf(e, nil), c)
}

func sameCode(a, b []Instr) bool {
	return slices.EqualFunc(a, b, sameInstr)
}

func sameInstr(a, b Instr) bool {
	return a.Op == b.Op && a.N == b.N && a.Name == b.Name && sameCode(a.Body, b.Body) && sameCode(a.Other, b.Other)
}

const (
	// maxCode is the largest number of instructions: no node has more than three.
	maxCode = 3 * maxNodes
	// maxNames is the largest number of names around a node: each one around it binds at most two.
	maxNames = 2 * maxDepth
)

// decoder finds the only expression, but for its names, of which some instructions may be the code. It panics where there is none.
type decoder struct{ left int } // how many instructions may still be read: bodies that contain themselves have no end

func (d *decoder) expression(code []Instr, names []string) Expr {
	e, _ := d.part(code, names)
	return e
}

// part returns the expression of the instructions up to one that leaves a let, or to the end, and the instructions from there on.
func (d *decoder) part(code []Instr, names []string) (Expr, []Instr) {
	var done []Expr
	for len(code) > 0 && code[0].Op != leaveOp {
		if d.left == 0 || len(names) > maxNames {
			panic(api.ErrArg)
		}
		d.left--
		i := code[0]
		code = code[1:]
		first := len(done) - taken(i)
		if !isBetween(first, 0, len(done)) {
			panic(api.ErrArg)
		}
		e := d.node(i, slices.Clone(done[first:]), names)
		if i.Op == enterOp {
			rest, left := d.part(code, inside(e, 1, names))
			if len(left) == 0 {
				panic(api.ErrArg)
			}
			e.Kids = append(e.Kids, rest)
			code = left[1:]
		}
		done = append(done[:first], e)
	}
	if len(done) != 1 {
		panic(api.ErrArg)
	}
	return done[0], code
}

// taken returns how many values an instruction takes.
func taken(i Instr) int {
	switch i.Op {
	case applyOp, pairOp:
		return 2
	case enterOp, chooseOp:
		return 1
	case operateOp:
		return operands(i.Name)
	}
	return 0
}

// node returns the expression that an instruction makes of those whose values it takes. That of a let or a recursive function is still without its rest.
func (d *decoder) node(i Instr, kids []Expr, names []string) Expr {
	switch i.Op {
	case numberOp:
		return Expr{Kind: numberKind, N: i.N}
	case truthOp:
		return Expr{Kind: truthKind, N: i.N}
	case maskOp:
		return Expr{Kind: maskKind, Name: i.Name}
	case variableOp:
		if isBetween(i.N, 0, len(names)-1) {
			return Expr{Kind: variableKind, Name: names[len(names)-1-i.N]}
		}
	case functionOp:
		return d.withBody(Expr{Kind: functionKind, Name: newName(names, 0)}, i, names)
	case recursionOp:
		return d.withBody(Expr{Kind: recursionKind, Name: newName(names, 0), Arg: newName(names, 1)}, i, names)
	case applyOp:
		return Expr{Kind: applicationKind, Kids: kids}
	case enterOp:
		if e := kids[0]; e.Kind == recursionKind && len(e.Kids) == 1 {
			return e
		}
		return Expr{Kind: letKind, Name: newName(names, 0), Kids: kids}
	case chooseOp:
		yes := d.expression(i.Body, names)
		no := d.expression(i.Other, names)
		return Expr{Kind: choiceKind, Kids: append(kids, yes, no)}
	case operateOp:
		return Expr{Kind: operatorKind, Name: i.Name, Kids: kids}
	case pairOp:
		return Expr{Kind: pairKind, Kids: kids}
	}
	panic(api.ErrArg)
}

func (d *decoder) withBody(e Expr, i Instr, names []string) Expr {
	body := d.expression(i.Body, inside(e, 0, names))
	e.Kids = []Expr{body}
	return e
}

// newName returns a name other than all around it, and than those with other numbers.
func newName(names []string, number int) string {
	return "v" + strconv.Itoa(len(names)+number)
}
