package design

import (
	"strings"

	"canting/api"
)

// Print returns an expression as a program.
func Print(e Expr) (string, api.Errno) {
	if !valid(e) {
		return "", api.ErrArg
	}
	var p printer
	p.write(e)
	return p.String(), api.OK
}

type printer struct{ strings.Builder }

// put writes texts and expressions one after another: a text, an expression, a text and so on.
func (p *printer) put(kids []Expr, texts ...string) {
	for k, kid := range kids {
		p.WriteString(texts[k])
		p.write(kid)
	}
	p.WriteString(texts[len(kids)])
}

func (p *printer) write(e Expr) {
	switch e.Kind {
	case numberKind:
		p.WriteString(numberToken(e.N))
	case truthKind:
		p.WriteString(truthToken(e.N == 1))
	case maskKind:
		p.WriteString(maskToken(e.Name))
	case variableKind:
		p.WriteString(e.Name)
	case functionKind:
		p.put(e.Kids, "(fn "+e.Name+" -> ", ")")
	case applicationKind:
		p.put(e.Kids, "(", " ", ")")
	case letKind:
		p.put(e.Kids, "(let "+e.Name+" = ", " in ", ")")
	case recursionKind:
		p.put(e.Kids, "(let rec "+e.Name+" "+e.Arg+" = ", " in ", ")")
	case choiceKind:
		p.put(e.Kids, "(if ", " then ", " else ", ")")
	case pairKind:
		p.put(e.Kids, "(", ", ", ")")
	case operatorKind:
		p.operator(e)
	}
}

func (p *printer) operator(e Expr) {
	if !isLetter(e.Name[0]) {
		p.put(e.Kids, "(", " "+e.Name+" ", ")")
		return
	}
	open := e.Name + "("
	for _, kid := range e.Kids {
		p.WriteString(open)
		p.write(kid)
		open = ", "
	}
	p.WriteString(")")
}
