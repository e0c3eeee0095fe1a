package design

import "canting/api"

const (
	maxProgram      = 4000 // bytes
	maxProgramNodes = 300
	maxProgramDepth = 60
)

// Parse returns the expression of a program.
func Parse(s string) (Expr, api.Errno) {
	if len(s) > maxProgram {
		return Expr{}, api.ErrSize
	}
	e, bad := attempt(func() Expr { return program(s) })
	if bad != api.OK {
		return Expr{}, bad
	}
	if t := termOf(e); t.size > maxProgramNodes || t.depth > maxProgramDepth {
		return Expr{}, api.ErrSize
	}
	return e, api.OK
}

// parser has the tokens that are still to be read. It panics where they are no program.
type parser struct{ tokens []string }

func program(s string) Expr {
	p := parser{scan(s)}
	e := p.expression()
	if len(p.tokens) > 0 {
		panic(api.ErrForm)
	}
	return e
}

// next returns the next token, which is empty at the end.
func (p *parser) next() string {
	if len(p.tokens) == 0 {
		return ""
	}
	return p.tokens[0]
}

func (p *parser) take() string {
	token := p.next()
	if token == "" {
		panic(api.ErrForm)
	}
	p.tokens = p.tokens[1:]
	return token
}

// skip takes the next token if it is the one that is given, and tells whether it was.
func (p *parser) skip(token string) bool {
	if p.next() != token {
		return false
	}
	p.tokens = p.tokens[1:]
	return true
}

func (p *parser) expect(token string) {
	if !p.skip(token) {
		panic(api.ErrForm)
	}
}

func (p *parser) name() string {
	name := p.take()
	if !isName(name) {
		panic(api.ErrForm)
	}
	return name
}

func (p *parser) expression() Expr {
	switch {
	case p.skip("fn"):
		return p.function()
	case p.skip("let"):
		if p.skip("rec") {
			return p.recursion()
		}
		return p.let()
	case p.skip("if"):
		return p.choice()
	}
	return p.level(0)
}

// after returns the expression behind a token.
func (p *parser) after(token string) Expr {
	p.expect(token)
	return p.expression()
}

func (p *parser) function() Expr {
	name := p.name()
	body := p.after("->")
	return Expr{Kind: functionKind, Name: name, Kids: []Expr{body}}
}

func (p *parser) let() Expr {
	name := p.name()
	value := p.after("=")
	rest := p.after("in")
	return Expr{Kind: letKind, Name: name, Kids: []Expr{value, rest}}
}

func (p *parser) recursion() Expr {
	name := p.name()
	parameter := p.name()
	if parameter == name {
		panic(api.ErrForm)
	}
	body := p.after("=")
	rest := p.after("in")
	return Expr{Kind: recursionKind, Name: name, Arg: parameter, Kids: []Expr{body, rest}}
}

func (p *parser) choice() Expr {
	condition := p.expression()
	yes := p.after("then")
	no := p.after("else")
	return Expr{Kind: choiceKind, Kids: []Expr{condition, yes, no}}
}

// levels is how many levels of signs there are.
const levels = 5

// levelOf returns the level of a sign between operands: those of higher levels hold their operands together more closely. It is -1 for other tokens.
func levelOf(token string) int {
	switch token {
	case "|":
		return 0
	case "&":
		return 1
	case "=", "<":
		return 2
	case "+", "-":
		return 3
	case "*":
		return 4
	}
	return -1
}

// level returns operands of higher levels, with signs of a level between them.
func (p *parser) level(level int) Expr {
	if level == levels {
		return p.application()
	}
	left := p.level(level + 1)
	for levelOf(p.next()) == level {
		sign := p.take()
		right := p.level(level + 1)
		left = Expr{Kind: operatorKind, Name: sign, Kids: []Expr{left, right}}
	}
	return left
}

func (p *parser) application() Expr {
	left := p.atom()
	for beginsAtom(p.next()) {
		right := p.atom()
		left = Expr{Kind: applicationKind, Kids: []Expr{left, right}}
	}
	return left
}

func beginsAtom(token string) bool {
	if token == "" || isKeyword(token) {
		return false
	}
	c := token[0]
	return isLetter(c) || isDigit(c) || c == '_' || c == '{' || c == '('
}

func (p *parser) atom() Expr {
	token := p.take()
	c := token[0]
	switch {
	case isDigit(c) || c == '_':
		return Expr{Kind: numberKind, N: numberOf(token)}
	case token == trueWord:
		return Expr{Kind: truthKind, N: 1}
	case token == falseWord:
		return Expr{Kind: truthKind}
	case c == '{':
		return Expr{Kind: maskKind, Name: token[1 : len(token)-1]}
	case c == '(':
		return p.group()
	case isName(token):
		return Expr{Kind: variableKind, Name: token}
	case isLetter(c) && isOperator(token):
		return p.operator(token)
	}
	panic(api.ErrForm)
}

// group returns what is behind an opening bracket: an expression, or a pair.
func (p *parser) group() Expr {
	left := p.expression()
	if p.skip(")") {
		return left
	}
	right := p.after(",")
	p.expect(")")
	return Expr{Kind: pairKind, Kids: []Expr{left, right}}
}

func (p *parser) operator(name string) Expr {
	var kids []Expr
	before := "("
	for range operands(name) {
		kid := p.after(before)
		kids = append(kids, kid)
		before = ","
	}
	p.expect(")")
	return Expr{Kind: operatorKind, Name: name, Kids: kids}
}
