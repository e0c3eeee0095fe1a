package design

import (
	"slices"
	"strings"

	"canting/api"
)

// term is an expression that knows its measures. Terms never change, so that they can be parts of many others.
type term struct {
	Expr        // without its Kids
	kids        []*term
	size, depth int
	isValue     bool
}

func newTerm(e Expr, kids ...*term) *term {
	e.Kids = nil
	t := &term{Expr: e, kids: kids, size: 1, depth: 1}
	values := true
	for _, kid := range kids {
		t.size += kid.size
		t.depth = max(t.depth, kid.depth+1)
		values = values && kid.isValue
	}
	switch e.Kind {
	case numberKind, truthKind, maskKind, functionKind:
		t.isValue = true
	case pairKind:
		t.isValue = values
	}
	return t
}

func termOf(e Expr) *term {
	var kids []*term
	for _, kid := range e.Kids {
		kids = append(kids, termOf(kid))
	}
	return newTerm(e, kids...)
}

// expr returns the expression, in new memory.
func (t *term) expr() Expr {
	e := t.Expr
	for _, kid := range t.kids {
		e.Kids = append(e.Kids, kid.expr())
	}
	return e
}

// put returns t with a term that has no free names in place of a name.
func (t *term) put(name string, in *term) *term {
	if t.Kind == variableKind && t.Name == name {
		return in
	}
	kids := slices.Clone(t.kids)
	changed := false
	for k, kid := range t.kids {
		if !slices.Contains(bound(t.Expr, k), name) {
			kids[k] = kid.put(name, in)
			changed = changed || kids[k] != kid
		}
	}
	if !changed {
		return t
	}
	return newTerm(t.Expr, kids...)
}

// held is a value that operators do not look into: a function, or a part of a pair.
type held struct{ *term }

func (h held) show(b *strings.Builder) {
	if h.Kind == functionKind {
		b.WriteString(shownFunction)
	} else {
		h.value().show(b)
	}
}

// value returns the value that t is.
func (t *term) value() value {
	switch t.Kind {
	case numberKind:
		return number(t.N)
	case truthKind:
		return truth(t.N == 1)
	case maskKind:
		return regionOf(t.Name)
	case pairKind:
		return pair{held{t.kids[0]}, held{t.kids[1]}}
	}
	return held{t}
}

// result returns the term of a value that an operator makes.
func result(v value) *term {
	switch v := v.(type) {
	case number:
		return newTerm(Expr{Kind: numberKind, N: int(v)})
	case truth:
		n := 0
		if v {
			n = 1
		}
		return newTerm(Expr{Kind: truthKind, N: n})
	case region:
		return newTerm(Expr{Kind: maskKind, Name: v.text()})
	}
	return v.(held).term
}

// step returns what one step makes of t, which is no value and has no free names. It panics where no step can be made.
func (t *term) step() *term {
	for k, kid := range t.evaluated() {
		if !kid.isValue {
			kids := slices.Clone(t.kids)
			kids[k] = kid.step()
			return newTerm(t.Expr, kids...)
		}
	}
	switch t.Kind {
	case applicationKind:
		return t.kids[0].applied(t.kids[1])
	case letKind:
		return t.kids[1].put(t.Name, t.kids[0])
	case recursionKind:
		return t.kids[1].put(t.Name, t.unrolled())
	case choiceKind:
		if asTruth(t.kids[0].value()) {
			return t.kids[1]
		}
		return t.kids[2]
	}
	var values []value
	for _, kid := range t.kids {
		values = append(values, kid.value())
	}
	return result(operate(t.Name, values))
}

// evaluated returns the kids that must be values before t itself makes a step.
func (t *term) evaluated() []*term {
	switch t.Kind {
	case letKind, choiceKind:
		return t.kids[:1]
	case recursionKind:
		return nil
	}
	return t.kids
}

// applied returns what the application of t to a value is.
func (t *term) applied(argument *term) *term {
	if t.Kind != functionKind {
		panic(api.ErrFault)
	}
	return t.kids[0].put(t.Name, argument)
}

// unrolled returns the function that stands for the name of a recursive function.
func (t *term) unrolled() *term {
	body := t.kids[0]
	again := newTerm(t.Expr, body, body)
	return newTerm(Expr{Kind: functionKind, Name: t.Arg}, again)
}

// stepped returns what one step makes of t, if that is an expression of the language.
func stepped(t *term) (*term, api.Errno) {
	next, e := attempt(t.step)
	if e == api.OK && (next.size > maxNodes || next.depth > maxDepth) {
		return nil, api.ErrSize
	}
	return next, e
}

// Step makes one step.
func Step(e Expr) (Expr, api.Errno) {
	if !valid(e) {
		return Expr{}, api.ErrArg
	}
	t := termOf(e)
	if !t.isValue {
		if !isClosed(e) {
			return Expr{}, api.ErrNone
		}
		next, bad := stepped(t)
		if bad != api.OK {
			return Expr{}, bad
		}
		t = next
	}
	return t.expr(), api.OK
}

const maxSteps = 10_000

// Run makes steps until a value comes.
func Run(e Expr, fuel int) (Expr, int, api.Errno) {
	if !valid(e) || !isBetween(fuel, 0, maxSteps) {
		return Expr{}, 0, api.ErrArg
	}
	t, done := termOf(e), 0
	for !t.isValue {
		if done == fuel {
			return Expr{}, 0, api.ErrFuel
		}
		// A step makes no name free.
		if done == 0 && !isClosed(e) {
			return Expr{}, 0, api.ErrNone
		}
		next, bad := stepped(t)
		if bad != api.OK {
			return Expr{}, 0, bad
		}
		t = next
		done++
	}
	return t.expr(), done, api.OK
}

// Show returns a value as a string.
func Show(e Expr) (string, api.Errno) {
	if !valid(e) {
		return "", api.ErrArg
	}
	t := termOf(e)
	if !t.isValue {
		return "", api.ErrArg
	}
	return shown(t.value()), api.OK
}
