package design

import (
	"canting/api"
)

// Instr is an instruction of the machine.
type Instr struct {
	Op, N       int
	Name        string
	Body, Other []Instr
}

// The operations of instructions.
const (
	numberOp = iota
	truthOp
	maskOp
	variableOp
	functionOp
	recursionOp
	applyOp
	enterOp
	leaveOp
	chooseOp
	operateOp
	pairOp
)

// Compile returns the code of an expression.
func Compile(e Expr) ([]Instr, api.Errno) {
	if !valid(e) {
		return nil, api.ErrArg
	}
	if !isClosed(e) {
		return nil, api.ErrNone
	}
	return codeOf(e, nil), api.OK
}

// codeOf returns the code of an expression under names, the last of which is the innermost one.
func codeOf(e Expr, names []string) []Instr {
	var c coder
	c.write(e, names)
	return c.code
}

type coder struct{ code []Instr }

func (c *coder) put(i Instr) {
	c.code = append(c.code, i)
}

func (c *coder) write(e Expr, names []string) {
	switch e.Kind {
	case numberKind:
		c.put(Instr{Op: numberOp, N: e.N})
	case truthKind:
		c.put(Instr{Op: truthOp, N: e.N})
	case maskKind:
		c.put(Instr{Op: maskOp, Name: e.Name})
	case variableKind:
		c.put(Instr{Op: variableOp, N: place(names, e.Name)})
	case functionKind:
		c.put(Instr{Op: functionOp, Body: codeOf(e.Kids[0], inside(e, 0, names))})
	case letKind:
		c.write(e.Kids[0], names)
		c.rest(e, names)
	case recursionKind:
		c.put(Instr{Op: recursionOp, Body: codeOf(e.Kids[0], inside(e, 0, names))})
		c.rest(e, names)
	case choiceKind:
		c.write(e.Kids[0], names)
		c.put(Instr{Op: chooseOp, Body: codeOf(e.Kids[1], names), Other: codeOf(e.Kids[2], names)})
	default:
		for _, kid := range e.Kids {
			c.write(kid, names)
		}
		c.put(joining(e))
	}
}

// rest writes the rest of a let or of a recursive function.
func (c *coder) rest(e Expr, names []string) {
	c.put(Instr{Op: enterOp})
	c.write(e.Kids[1], inside(e, 1, names))
	c.put(Instr{Op: leaveOp})
}

// joining returns the instruction that makes one value of those of all Kids.
func joining(e Expr) Instr {
	switch e.Kind {
	case applicationKind:
		return Instr{Op: applyOp}
	case pairKind:
		return Instr{Op: pairOp}
	}
	return Instr{Op: operateOp, Name: e.Name}
}

// place returns how many places from the end a name stands.
func place(names []string, name string) int {
	n := 0
	for names[len(names)-1-n] != name {
		n++
	}
	return n
}
