package design

import (
	"math"

	"canting/api"
)

// typing finds the types of expressions. It panics where there is none, or where one is too large.
type typing struct {
	*graph
	level int // how many lets and recursive functions are open, counted up to their rests
}

// generalLevel is that of the variables that stand for any type.
const generalLevel = math.MaxInt

// binding is a name with its type, and those around it.
type binding struct {
	name      string
	of        int
	isGeneral bool // a new instance in each use
	outer     *binding
}

// Infer returns the principal type.
func Infer(e Expr) (string, api.Errno) {
	if !valid(e) {
		return "", api.ErrArg
	}
	if !isClosed(e) {
		return "", api.ErrNone
	}
	return attempt(func() string {
		t := typing{graph: newGraph()}
		of := t.infer(e, nil)
		t.mustBeSmall(of)
		return t.text(of)
	})
}

func (t *typing) mustBeSmall(of int) {
	if !t.isSmall(of) {
		panic(api.ErrSize)
	}
}

func (t *typing) fresh() int {
	return t.variable(t.level)
}

func (t *typing) infer(e Expr, around *binding) int {
	switch e.Kind {
	case numberKind:
		return intShape
	case truthKind:
		return boolShape
	case maskKind:
		return maskShape
	case variableKind:
		return t.use(e.Name, around)
	case functionKind:
		from := t.fresh()
		to := t.infer(e.Kids[0], &binding{e.Name, from, false, around})
		return t.arrow(from, to)
	case letKind:
		t.level++
		of := t.infer(e.Kids[0], around)
		return t.rest(e, of, around)
	case recursionKind:
		t.level++
		of := t.recursive(e, around)
		return t.rest(e, of, around)
	}
	var kids []int
	for _, kid := range e.Kids {
		kids = append(kids, t.infer(kid, around))
	}
	return t.joined(e, kids)
}

// recursive returns the type of a recursive function.
func (t *typing) recursive(e Expr, around *binding) int {
	of := t.fresh()
	from := t.fresh()
	to := t.infer(e.Kids[0], &binding{e.Arg, from, false, &binding{e.Name, of, false, around}})
	t.unify(of, t.arrow(from, to))
	return of
}

// rest closes a let or a recursive function, whose Name has a type, and returns the type of its rest.
func (t *typing) rest(e Expr, of int, around *binding) int {
	t.level--
	t.mustBeSmall(of)
	t.generalize(of)
	return t.infer(e.Kids[1], &binding{e.Name, of, true, around})
}

// joined returns the type of an expression whose Kids have the types that are given.
func (t *typing) joined(e Expr, kids []int) int {
	switch e.Kind {
	case applicationKind:
		to := t.fresh()
		t.unify(kids[0], t.arrow(kids[1], to))
		return to
	case choiceKind:
		t.unify(kids[0], boolShape)
		t.unify(kids[1], kids[2])
		return kids[1]
	case operatorKind:
		return t.operation(e.Name, kids)
	}
	return t.product(kids[0], kids[1])
}

// operation returns the type of the result of an operator.
func (t *typing) operation(name string, kids []int) int {
	left := t.fresh()
	right := t.fresh()
	typeOf := func(letter byte) int {
		switch letter {
		case intLetter:
			return intShape
		case boolLetter:
			return boolShape
		case maskLetter:
			return maskShape
		case leftLetter:
			return left
		case rightLetter:
			return right
		}
		return t.product(left, right)
	}
	letters := signature(name)
	for k, kid := range kids {
		t.unify(kid, typeOf(letters[k]))
	}
	return typeOf(letters[len(kids)])
}

// use returns the type that a name has in one of its uses.
func (t *typing) use(name string, around *binding) int {
	for around.name != name {
		around = around.outer
	}
	if !around.isGeneral {
		return around.of
	}
	return t.instance(around.of)
}

// generalize makes those variables of a small type general that no name around has.
func (t *typing) generalize(of int) {
	n := &t.nodes[t.find(of)]
	switch {
	case n.shape == variableShape && n.level > t.level:
		n.level = generalLevel
	case n.hasParts():
		t.generalize(n.left)
		t.generalize(n.right)
	}
}

// instance returns a small type with new variables in place of the general ones.
func (t *typing) instance(of int) int {
	put := map[int]int{}
	var copied func(of int) int
	copied = func(of int) int {
		of = t.find(of)
		n := t.nodes[of]
		switch {
		case n.shape == variableShape && n.level == generalLevel:
			if _, known := put[of]; !known {
				put[of] = t.fresh()
			}
			return put[of]
		case !n.hasParts():
			return of
		}
		left := copied(n.left)
		right := copied(n.right)
		if left == t.find(n.left) && right == t.find(n.right) {
			return of
		}
		return t.add(typeNode{shape: n.shape, left: left, right: right})
	}
	return copied(of)
}
