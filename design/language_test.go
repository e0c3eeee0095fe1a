package design_test

import (
	"slices"
	"strconv"
	"strings"

	"canting/api"
	"canting/design"
)

// printOf follows the chapter.
func printOf(e design.Expr) string {
	var kids []string
	for _, kid := range e.Kids {
		kids = append(kids, printOf(kid))
	}
	switch e.Kind {
	case kindNumber:
		return strings.ReplaceAll(strconv.Itoa(e.N), "-", "_")
	case kindTruth:
		return []string{"false", "true"}[e.N]
	case kindMask:
		return "{" + e.Name + "}"
	case kindVariable:
		return e.Name
	case kindFunction:
		return "(fn " + e.Name + " -> " + kids[0] + ")"
	case kindApplication:
		return "(" + kids[0] + " " + kids[1] + ")"
	case kindLet:
		return "(let " + e.Name + " = " + kids[0] + " in " + kids[1] + ")"
	case kindRecursion:
		return "(let rec " + e.Name + " " + e.Arg + " = " + kids[0] + " in " + kids[1] + ")"
	case kindChoice:
		return "(if " + kids[0] + " then " + kids[1] + " else " + kids[2] + ")"
	case kindPair:
		return "(" + kids[0] + ", " + kids[1] + ")"
	}
	if strings.Contains("+-*=<|&", e.Name) {
		return "(" + kids[0] + " " + e.Name + " " + kids[1] + ")"
	}
	return e.Name + "(" + strings.Join(kids, ", ") + ")"
}

// freeOf returns the free names of the Kids, without those that are bound.
func freeOf(e design.Expr) []string {
	if e.Kind == kindVariable {
		return []string{e.Name}
	}
	var l []string
	for k, kid := range e.Kids {
		for _, x := range freeOf(kid) {
			if !binds(e, k, x) && !slices.Contains(l, x) {
				l = append(l, x)
			}
		}
	}
	return l
}

// binds reports whether a name is bound by e in its kid number k.
func binds(e design.Expr, k int, name string) bool {
	switch e.Kind {
	case kindFunction:
		return e.Name == name
	case kindLet:
		return k == 1 && e.Name == name
	case kindRecursion:
		return e.Name == name || k == 0 && e.Arg == name
	}
	return false
}

// reading is an expression that some tokens are, from one on, and where it ends.
type reading struct {
	e   design.Expr
	end int
}

// grammar tries all ways to read tokens.
type grammar []string

func (g grammar) is(at int, token string) bool { return at < len(g) && g[at] == token }

// names returns the name at a place, if there is one.
func (g grammar) names(at int) []string {
	words := append(sorted(operators), "fn", "let", "rec", "in", "if", "then", "else", "true", "false")
	if at >= len(g) || len(g[at]) > 12 || slices.Contains(words, g[at]) || g[at][0] < 'a' || g[at][0] > 'z' {
		return nil
	}
	return []string{g[at]}
}

// after reads an expression behind a token.
func (g grammar) after(at int, token string) []reading {
	if !g.is(at, token) {
		return nil
	}
	return g.expr(at + 1)
}

func (g grammar) expr(at int) []reading {
	l := g.signs(at, []string{"|", "&", "= <", "+ -", "*"})
	if g.is(at, "fn") {
		for _, x := range g.names(at + 1) {
			for _, body := range g.after(at+2, "->") {
				l = append(l, reading{fn(x, body.e), body.end})
			}
		}
	}
	if g.is(at, "let") {
		for _, x := range g.names(at + 1) {
			for _, value := range g.after(at+2, "=") {
				for _, rest := range g.after(value.end, "in") {
					l = append(l, reading{let(x, value.e, rest.e), rest.end})
				}
			}
		}
		if g.is(at+1, "rec") {
			l = append(l, g.recursions(at+2)...)
		}
	}
	for _, c := range g.after(at, "if") {
		for _, yes := range g.after(c.end, "then") {
			for _, no := range g.after(yes.end, "else") {
				l = append(l, reading{choice(c.e, yes.e, no.e), no.end})
			}
		}
	}
	return l
}

func (g grammar) recursions(at int) []reading {
	var l []reading
	for _, f := range g.names(at) {
		for _, x := range g.names(at + 1) {
			for _, body := range g.after(at+2, "=") {
				for _, rest := range g.after(body.end, "in") {
					if f != x {
						l = append(l, reading{rec(f, x, body.e, rest.e), rest.end})
					}
				}
			}
		}
	}
	return l
}

// signs reads operands with signs of the first level between them.
func (g grammar) signs(at int, levels []string) []reading {
	if len(levels) == 0 {
		return g.applications(at)
	}
	l := g.signs(at, levels[1:])
	for k := 0; k < len(l); k++ {
		end := l[k].end
		if end < len(g) && slices.Contains(strings.Fields(levels[0]), g[end]) {
			for _, right := range g.signs(end+1, levels[1:]) {
				l = append(l, reading{op(g[end], l[k].e, right.e), right.end})
			}
		}
	}
	return l
}

func (g grammar) applications(at int) []reading {
	l := g.atoms(at)
	for k := 0; k < len(l); k++ {
		for _, right := range g.atoms(l[k].end) {
			l = append(l, reading{apply(l[k].e, right.e), right.end})
		}
	}
	return l
}

func (g grammar) atoms(at int) []reading {
	if at >= len(g) {
		return nil
	}
	var l []reading
	for _, x := range g.names(at) {
		l = append(l, reading{name(x), at + 1})
	}
	switch token := g[at]; {
	case token == "true" || token == "false":
		return []reading{{truth(token == "true"), at + 1}}
	case token[0] == '{':
		return []reading{{cloth(strings.Trim(token, "{}")), at + 1}}
	case token[0] == '_' || token[0] >= '0' && token[0] <= '9':
		n, _ := strconv.Atoi(strings.Replace(token, "_", "-", 1))
		return []reading{{num(n), at + 1}}
	}
	for _, e := range g.after(at, "(") {
		if g.is(e.end, ")") {
			l = append(l, reading{e.e, e.end + 1})
		}
		for _, right := range g.after(e.end, ",") {
			if g.is(right.end, ")") {
				l = append(l, reading{pair(e.e, right.e), right.end + 1})
			}
		}
	}
	return append(l, g.operations(at)...)
}

func (g grammar) operations(at int) []reading {
	types, ok := operators[g[at]]
	if !ok || strings.Contains("+-*=<|&", g[at]) {
		return nil
	}
	l := []reading{{op(g[at]), at + 1}}
	for k := range len(types) - 1 {
		var longer []reading
		for _, part := range l {
			for _, operand := range g.after(part.end, []string{"(", ","}[min(k, 1)]) {
				e := part.e
				e.Kids = slices.Concat(e.Kids, []design.Expr{operand.e})
				longer = append(longer, reading{e, operand.end})
			}
		}
		l = longer
	}
	var closed []reading
	for _, part := range l {
		if g.is(part.end, ")") {
			closed = append(closed, reading{part.e, part.end + 1})
		}
	}
	return closed
}

// readings returns all expressions that the tokens are.
func (g grammar) readings() []design.Expr {
	var l []design.Expr
	for _, r := range g.expr(0) {
		if r.end == len(g) {
			l = append(l, r.e)
		}
	}
	return l
}

// equations are what reference typing has found: types of variables (which are basic types with a name of their own).
type equations struct {
	put  map[string]*tree
	next int
}

// failure is what the references panic with.
type failure api.Errno

// caught returns the error of what a deferred function has recovered.
func caught(x any) api.Errno {
	switch f := x.(type) {
	case nil:
		return api.OK
	case failure:
		return api.Errno(f)
	}
	panic(x)
}

func (q *equations) fresh() *tree {
	q.next++
	return &tree{what: "?" + strconv.Itoa(q.next)}
}

func isVariable(t *tree) bool { return t.what[0] == '?' }

// solved returns a type with all that is known of its variables.
func (q *equations) solved(t *tree) *tree {
	if u, ok := q.put[t.what]; ok {
		return q.solved(u)
	}
	if t.left == nil {
		return t
	}
	return &tree{t.what, q.solved(t.left), q.solved(t.right)}
}

func variablesOf(t *tree) []string {
	if t.left != nil {
		return append(variablesOf(t.left), variablesOf(t.right)...)
	}
	if isVariable(t) {
		return []string{t.what}
	}
	return nil
}

func sizeOf(t *tree) int {
	if t.left == nil {
		return 1
	}
	return 1 + sizeOf(t.left) + sizeOf(t.right)
}

func (q *equations) equate(t, u *tree) {
	t, u = q.solved(t), q.solved(u)
	switch {
	case t.String() == u.String():
	case isVariable(t) && !slices.Contains(variablesOf(u), t.what):
		q.put[t.what] = u
	case isVariable(u) && !isVariable(t):
		q.equate(u, t)
	case t.left != nil && t.what == u.what:
		q.equate(t.left, u.left)
		q.equate(t.right, u.right)
	default:
		panic(failure(api.ErrType))
	}
}

// scheme is the type of a name, and those of its variables that stand for any type.
type scheme struct {
	name    string
	of      *tree
	general []string
}

func renamed(t *tree, names map[string]*tree) *tree {
	if t.left != nil {
		return &tree{t.what, renamed(t.left, names), renamed(t.right, names)}
	}
	if u, ok := names[t.what]; ok {
		return u
	}
	return t
}

func (q *equations) typeOf(e design.Expr, around []scheme) *tree {
	in := func(k int, more ...scheme) *tree { return q.typeOf(e.Kids[k], append(slices.Clip(around), more...)) }
	switch e.Kind {
	case kindNumber, kindTruth, kindMask:
		return basic[e.Kind]
	case kindVariable:
		return q.typeOfName(e.Name, around)
	case kindFunction:
		from := q.fresh()
		return &tree{"->", from, in(0, scheme{e.Name, from, nil})}
	case kindApplication:
		f, a, result := in(0), in(1), q.fresh()
		q.equate(f, &tree{"->", a, result})
		return result
	case kindLet:
		return in(1, scheme{e.Name, in(0), nil}.generalized(q, around))
	case kindRecursion:
		f, from := q.fresh(), q.fresh()
		to := in(0, scheme{e.Name, f, nil}, scheme{e.Arg, from, nil})
		q.equate(f, &tree{"->", from, to})
		return in(1, scheme{e.Name, f, nil}.generalized(q, around))
	case kindChoice:
		c, yes, no := in(0), in(1), in(2)
		q.equate(c, basic[1])
		q.equate(yes, no)
		return yes
	case kindPair:
		return &tree{"*", in(0), in(1)}
	}
	var kids []*tree
	for k := range e.Kids {
		kids = append(kids, in(k))
	}
	parts := map[string]*tree{"l": q.fresh(), "r": q.fresh()}
	parts["p"] = &tree{"*", parts["l"], parts["r"]}
	types := operators[e.Name]
	for k, kid := range kids {
		q.equate(kid, renamed(&tree{what: types[k]}, parts))
	}
	return renamed(&tree{what: types[len(kids)]}, parts)
}

func (q *equations) typeOfName(name string, around []scheme) *tree {
	for _, s := range slices.Backward(around) {
		if s.name == name {
			names := map[string]*tree{}
			for _, x := range s.general {
				names[x] = q.fresh()
			}
			return renamed(q.solved(s.of), names)
		}
	}
	panic("a free name")
}

func (s scheme) generalized(q *equations, around []scheme) scheme {
	s.of = q.solved(s.of)
	if sizeOf(s.of) > 500 {
		panic(failure(api.ErrSize))
	}
	var fixed []string
	for _, x := range around {
		for _, v := range variablesOf(q.solved(x.of)) {
			if !slices.Contains(x.general, v) {
				fixed = append(fixed, v)
			}
		}
	}
	for _, v := range variablesOf(s.of) {
		if !slices.Contains(fixed, v) {
			s.general = append(s.general, v)
		}
	}
	return s
}

// inferOf follows the chapter.
func inferOf(e design.Expr) (text string, bad api.Errno) {
	if len(freeOf(e)) > 0 {
		return "", api.ErrNone
	}
	defer func() { bad = caught(recover()) }()
	q := &equations{put: map[string]*tree{}}
	t := q.solved(q.typeOf(e, nil))
	if sizeOf(t) > 500 {
		panic(failure(api.ErrSize))
	}
	return inOrder(t).String(), api.OK
}

// inOrder names the variables of a type in the order in which they occur.
func inOrder(t *tree) *tree {
	names := map[string]*tree{}
	for _, v := range variablesOf(t) {
		if _, ok := names[v]; !ok {
			n := len(names)
			names[v] = &tree{what: string(rune('a'+n%26)) + strings.TrimPrefix(strconv.Itoa(n/26), "0")}
		}
	}
	return renamed(t, names)
}
