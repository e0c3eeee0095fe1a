package design

import (
	"canting/api"
	"canting/mask"
)

// The types of operands and results, as letters of signatures.
const (
	intLetter   = 'i'
	boolLetter  = 'b'
	maskLetter  = 'm'
	pairLetter  = 'p'
	leftLetter  = 'l' // the left part of the pair
	rightLetter = 'r'
)

// signature returns the types of the operands of an operator, and behind them that of its result; nothing if name is no operator.
func signature(name string) string {
	switch name {
	case "+", "-", "*":
		return "iii"
	case "=", "<":
		return "iib"
	case "|", "&":
		return "mmm"
	case "not":
		return "bb"
	case "comp", "turn":
		return "mm"
	case "count":
		return "mi"
	case "fst":
		return "pl"
	case "snd":
		return "pr"
	case "shift":
		return "iimm"
	case "has":
		return "miib"
	case "rect":
		return "iiiim"
	}
	return ""
}

func isOperator(name string) bool {
	return signature(name) != ""
}

// operands returns how many operands an operator has.
func operands(name string) int {
	return len(signature(name)) - 1
}

// operate applies an operator to as many values as it takes.
func operate(name string, v []value) value {
	switch name {
	case "+", "-", "*":
		return calculated(name, asNumber(v[0]), asNumber(v[1]))
	case "=":
		return truth(asNumber(v[0]) == asNumber(v[1]))
	case "<":
		return truth(asNumber(v[0]) < asNumber(v[1]))
	case "not":
		return !asTruth(v[0])
	case "fst":
		return asPair(v[0]).left
	case "snd":
		return asPair(v[0]).right
	case "count":
		n, _ := mask.Count(asMask(v[0]))
		return number(n)
	case "has":
		return hasCell(asMask(v[0]), asNumber(v[1]), asNumber(v[2]))
	}
	return drawn(name, v)
}

func calculated(name string, a, b number) number {
	n := a * b
	switch name {
	case "+":
		n = a + b
	case "-":
		n = a - b
	}
	if !isBetween(int(n), -maxNumber, maxNumber) {
		panic(api.ErrRange)
	}
	return n
}

// drawn applies an operator that makes a mask.
func drawn(name string, v []value) value {
	switch name {
	case "|":
		return sure(mask.Or(asMask(v[0]), asMask(v[1])))
	case "&":
		return sure(mask.And(asMask(v[0]), asMask(v[1])))
	case "comp":
		return sure(mask.Not(asMask(v[0])))
	case "turn":
		return sure(mask.Turn(asMask(v[0])))
	case "shift":
		return sure(mask.Shift(asMask(v[2]), int(asNumber(v[0])), int(asNumber(v[1]))))
	}
	return rectangle(asNumber(v[0]), asNumber(v[1]), asNumber(v[2]), asNumber(v[3]))
}

// sure returns what an operation makes of masks that are valid together.
func sure(f mask.Mask, _ api.Errno) region {
	return region(f)
}

const side = 1 << clothSide

func hasCell(f mask.Mask, x, y number) truth {
	// The side is a power of two: the lowest bits are the rest, also below zero.
	p, _ := mask.Cell(clothSide, int(x)&(side-1), int(y)&(side-1))
	has, _ := mask.At(f, p)
	return truth(has)
}

// rectangle returns the part of a rectangle that is on the cloth.
func rectangle(x0, y0, x1, y1 number) region {
	left, top := max(x0, 0), max(y0, 0)
	right, bottom := min(x1, side-1), min(y1, side-1)
	if left > right || top > bottom {
		return sure(mask.Const(2*clothSide, false))
	}
	return sure(mask.Rect(clothSide, int(left), int(top), int(right), int(bottom)))
}
