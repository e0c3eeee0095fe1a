package design_test

import (
	"fmt"
	"maps"
	"math/rand"
	"slices"
	"strconv"
	"strings"
	"testing"

	"canting/api"
	"canting/design"
	"canting/mask"
)

// The tests compare package design with the definitions of the chapter: a grammar that is tried in all ways, types as trees with lists of equations, steps on expressions, code that is run part by part, masks as tables of cells; and only through the exported functions.

// The kinds of expressions, as the chapter numbers them.
const (
	kindNumber = iota
	kindTruth
	kindMask
	kindVariable
	kindFunction
	kindApplication
	kindLet
	kindRecursion
	kindChoice
	kindOperator
	kindPair
)

// must returns the result of a call that has to succeed.
func must[T any](x T, e api.Errno) T {
	if e != api.OK {
		panic(e)
	}
	return x
}

func sorted[T any](m map[string]T) []string {
	return slices.Sorted(maps.Keys(m))
}

func parse(t *testing.T, s string) design.Expr {
	t.Helper()
	e, bad := design.Parse(s)
	if bad != api.OK {
		t.Fatalf("Parse(%q): %v", s, bad)
	}
	return e
}

func num(n int) design.Expr { return design.Expr{Kind: kindNumber, N: n} }

func truth(b bool) design.Expr {
	if b {
		return design.Expr{Kind: kindTruth, N: 1}
	}
	return design.Expr{Kind: kindTruth}
}

func cloth(text string) design.Expr { return design.Expr{Kind: kindMask, Name: text} }

func name(s string) design.Expr { return design.Expr{Kind: kindVariable, Name: s} }

func with(kind int, kids ...design.Expr) design.Expr { return design.Expr{Kind: kind, Kids: kids} }

func fn(x string, body design.Expr) design.Expr {
	return design.Expr{Kind: kindFunction, Name: x, Kids: []design.Expr{body}}
}

func apply(f, a design.Expr) design.Expr { return with(kindApplication, f, a) }

func let(x string, value, rest design.Expr) design.Expr {
	return design.Expr{Kind: kindLet, Name: x, Kids: []design.Expr{value, rest}}
}

func rec(f, x string, body, rest design.Expr) design.Expr {
	return design.Expr{Kind: kindRecursion, Name: f, Arg: x, Kids: []design.Expr{body, rest}}
}

func choice(c, yes, no design.Expr) design.Expr { return with(kindChoice, c, yes, no) }

func pair(l, r design.Expr) design.Expr { return with(kindPair, l, r) }

func op(operator string, kids ...design.Expr) design.Expr {
	return design.Expr{Kind: kindOperator, Name: operator, Kids: kids}
}

// operators have the types of their operands, and behind them that of the result; l and r are the parts of the pair p.
var operators = map[string][]string{
	"+": {"int", "int", "int"}, "-": {"int", "int", "int"}, "*": {"int", "int", "int"},
	"=": {"int", "int", "bool"}, "<": {"int", "int", "bool"},
	"|": {"mask", "mask", "mask"}, "&": {"mask", "mask", "mask"},
	"not": {"bool", "bool"}, "comp": {"mask", "mask"}, "turn": {"mask", "mask"}, "count": {"mask", "int"},
	"fst": {"p", "l"}, "snd": {"p", "r"},
	"shift": {"int", "int", "mask", "mask"}, "has": {"mask", "int", "int", "bool"},
	"rect": {"int", "int", "int", "int", "mask"},
}

// same reports whether two expressions are equal; nil and empty Kids are.
func same(a, b design.Expr) bool {
	return a.Kind == b.Kind && a.N == b.N && a.Name == b.Name && a.Arg == b.Arg && slices.EqualFunc(a.Kids, b.Kids, same)
}

// brief returns the front of what a value looks like.
func brief(x any) string {
	s := fmt.Sprint(x)
	return s[:min(len(s), 300)]
}

func isZero(e design.Expr) bool { return same(e, design.Expr{}) }

// nodes returns how many nodes e has.
func nodes(e design.Expr) int {
	n := 1
	for _, kid := range e.Kids {
		n += nodes(kid)
	}
	return n
}

func depth(e design.Expr) int {
	deepest := 0
	for _, kid := range e.Kids {
		deepest = max(deepest, depth(kid))
	}
	return deepest + 1
}

// joined returns a tree with so many leaves, in which two parts are joined again and again.
func joined(leaves int, leaf design.Expr, join func(l, r design.Expr) design.Expr) design.Expr {
	if leaves == 1 {
		return leaf
	}
	return join(joined(leaves/2, leaf, join), joined(leaves-leaves/2, leaf, join))
}

// balanced returns a tree of pairs with so many leaves.
func balanced(leaves int, leaf design.Expr) design.Expr {
	return joined(leaves, leaf, pair)
}

// chain returns something applied to an expression again and again.
func chain(times int, e design.Expr, once func(e design.Expr) design.Expr) design.Expr {
	for range times {
		e = once(e)
	}
	return e
}

func negated(e design.Expr) design.Expr { return op("not", e) }

// picture is the cells of a cloth, by x and y.
type picture [8][8]bool

func pictureOf(text string) picture {
	f := must(mask.Read(text))
	var p picture
	for x := range 8 {
		for y := range 8 {
			p[x][y] = must(mask.At(f, must(mask.Cell(3, x, y))))
		}
	}
	return p
}

func (p picture) text() string {
	table := make([]bool, 64)
	for x := range 8 {
		for y := range 8 {
			table[must(mask.Cell(3, x, y))] = p[x][y]
		}
	}
	return must(mask.Text(must(mask.FromTable(table))))
}

// drawnBy returns the picture of the cells that meet a condition.
func drawnBy(condition func(x, y int) bool) picture {
	var p picture
	for x := range 8 {
		for y := range 8 {
			p[x][y] = condition(x, y)
		}
	}
	return p
}

func (p picture) count() int {
	n := 0
	for x := range 8 {
		for y := range 8 {
			if p[x][y] {
				n++
			}
		}
	}
	return n
}

func modulo(x, n int) int { return (x%n + n) % n }

func randomText(r *rand.Rand) string {
	switch r.Intn(5) {
	case 0:
		return "6 T"
	case 1:
		return "6 F"
	case 2:
		return drawnBy(func(x, y int) bool { return r.Intn(2) == 0 }).text()
	}
	x, y, w := r.Intn(8), r.Intn(8), r.Intn(8)
	return drawnBy(func(a, b int) bool { return a >= x && b >= y && a+b <= x+y+w }).text()
}

// maker makes expressions by chance.
type maker struct{ *rand.Rand }

func newMaker(seed int64) maker { return maker{rand.New(rand.NewSource(seed))} }

func (m maker) of(l ...string) string { return l[m.Intn(len(l))] }

func (m maker) number() int {
	switch m.Intn(8) {
	case 0:
		return m.Intn(2_000_000_001) - 1_000_000_000
	case 1:
		return []int{-1_000_000_000, 1_000_000_000, 999_999_999, 31_623, -31_623}[m.Intn(5)]
	}
	return m.Intn(12) - 3
}

func (m maker) name() string { return m.of("a", "b", "x", "f", "g1") }

// leaf returns an expression without Kids whose names are from a list.
func (m maker) leaf(names []string) design.Expr {
	if len(names) > 0 && m.Intn(3) > 0 {
		return name(m.of(names...))
	}
	switch m.Intn(4) {
	case 0:
		return truth(m.Intn(2) == 0)
	case 1:
		return cloth(randomText(m.Rand))
	}
	return num(m.number())
}

// any returns an expression of at most so many nodes, of any kind, whose free names are from a list.
func (m maker) any(most int, names []string) design.Expr {
	kind := 4 + m.Intn(7)
	parts := func(n int, add ...[]string) []design.Expr {
		var kids []design.Expr
		for k := range n {
			around := names
			if k < len(add) {
				around = slices.Concat(names, add[k])
			}
			kids = append(kids, m.any((most-1)/n, around))
		}
		return kids
	}
	x, f := m.name(), m.name()
	switch {
	case most < 5:
		return m.leaf(names)
	case kind == kindFunction:
		return design.Expr{Kind: kind, Name: x, Kids: parts(1, []string{x})}
	case kind == kindLet:
		return design.Expr{Kind: kind, Name: x, Kids: parts(2, nil, []string{x})}
	case kind == kindRecursion && x != f:
		return design.Expr{Kind: kind, Name: f, Arg: x, Kids: parts(2, []string{f, x}, []string{f})}
	case kind == kindChoice:
		return design.Expr{Kind: kind, Kids: parts(3)}
	case kind == kindOperator:
		operator := m.of(sorted(operators)...)
		return design.Expr{Kind: kind, Name: operator, Kids: parts(len(operators[operator]) - 1)}
	case kind == kindPair:
		return design.Expr{Kind: kind, Kids: parts(2)}
	}
	return design.Expr{Kind: kindApplication, Kids: parts(2)}
}

// tree is a type: a basic one by its name, or a function (->) or a pair (*).
type tree struct {
	what        string
	left, right *tree
}

var basic = []*tree{{what: "int"}, {what: "bool"}, {what: "mask"}}

func (t *tree) String() string {
	if t.left == nil {
		return t.what
	}
	return "(" + t.left.String() + " " + t.what + " " + t.right.String() + ")"
}

func (m maker) someType(deep int) *tree {
	if deep == 0 || m.Intn(3) > 0 {
		return basic[m.Intn(len(basic))]
	}
	return &tree{m.of("->", "*"), m.someType(deep - 1), m.someType(deep - 1)}
}

// typed is a name with its type.
type typed struct {
	name string
	of   *tree
}

// having returns the names that have a type: of equal ones the last.
func having(around []typed, t *tree) []string {
	var l []string
	last := map[string]*tree{}
	for _, x := range around {
		last[x.name] = x.of
	}
	for _, x := range sorted(last) {
		if last[x].String() == t.String() {
			l = append(l, x)
		}
	}
	return l
}

// plain returns the simplest expression of a type.
func (m maker) plain(t *tree, around []typed) design.Expr {
	if l := having(around, t); len(l) > 0 && m.Intn(4) > 0 {
		return name(m.of(l...))
	}
	switch t.what {
	case "int":
		return num(m.number())
	case "bool":
		return truth(m.Intn(2) == 0)
	case "mask":
		return cloth(randomText(m.Rand))
	case "*":
		return pair(m.plain(t.left, around), m.plain(t.right, around))
	}
	x := m.name()
	return fn(x, m.plain(t.right, append(slices.Clip(around), typed{x, t.left})))
}

// typed returns an expression of a type, whose free names have the types that are given.
func (m maker) typed(t *tree, around []typed, deep int) design.Expr {
	if deep == 0 {
		return m.plain(t, around)
	}
	in := func(t *tree, more ...typed) design.Expr {
		return m.typed(t, append(slices.Clip(around), more...), deep-1)
	}
	other, x, f := m.someType(1), m.name(), m.name()
	switch k := m.Intn(14); {
	case k == 0:
		return let(x, in(other), in(t, typed{x, other}))
	case k == 1:
		return apply(fn(x, in(t, typed{x, other})), in(other))
	case k == 2:
		return apply(in(&tree{"->", other, t}), in(other))
	case k == 3:
		return choice(in(basic[1]), in(t), in(t))
	case k == 4:
		return op("fst", in(&tree{"*", t, other}))
	case k == 5:
		return op("snd", in(&tree{"*", other, t}))
	case k == 6:
		return let("id", fn(x, name(x)), apply(name("id"), apply(apply(name("id"), name("id")), in(t, typed{"id", &tree{what: "general"}}))))
	case k == 7 && x != f:
		return m.counting(t, around, f, x, deep)
	case t.what == "*":
		return pair(in(t.left), in(t.right))
	case t.what == "->":
		return fn(x, in(t.right, typed{x, t.left}))
	}
	var l []string
	for _, operator := range sorted(operators) {
		if types := operators[operator]; types[len(types)-1] == t.what {
			l = append(l, operator)
		}
	}
	e := op(m.of(l...))
	types := operators[e.Name]
	for _, operand := range types[:len(types)-1] {
		e.Kids = append(e.Kids, in(&tree{what: operand}))
	}
	return e
}

// counting returns a recursive function that counts down, applied to a small number.
func (m maker) counting(t *tree, around []typed, f, x string, deep int) design.Expr {
	of := typed{f, &tree{"->", basic[0], t}}
	inside := append(slices.Clip(around), of, typed{x, basic[0]})
	again := apply(name(f), op("-", name(x), num(1)))
	rest := let("r", again, m.typed(t, append(inside, typed{"r", t}), deep-1))
	body := choice(op("<", name(x), num(1)), m.typed(t, inside, deep-1), rest)
	return rec(f, x, body, apply(name(f), num(m.Intn(4))))
}

// designs returns closed expressions of the given type, or of any one.
func (m maker) designs(count, deep int, t *tree) []design.Expr {
	var l []design.Expr
	for len(l) < count {
		of := t
		if of == nil {
			of = m.someType(2)
		}
		if e := m.typed(of, nil, m.Intn(deep+1)); nodes(e) <= 2000 && depth(e) <= 400 {
			l = append(l, e)
		}
	}
	return l
}

// mixed returns closed expressions, most of which have no type.
func (m maker) mixed(count, most int) []design.Expr {
	var l []design.Expr
	for range count {
		l = append(l, m.any(1+m.Intn(most), nil))
	}
	return l
}

// large returns expressions at the limits of size and depth.
func large() []design.Expr {
	x := name("x")
	return []design.Expr{
		fn("x", balanced(2500, num(7))), // 5000 nodes
		balanced(2500, num(7)),
		// Nothing has longer code: 9997 instructions.
		joined(2500, num(7), func(l, r design.Expr) design.Expr { return rec("f", "x", l, r) }),
		joined(2500, num(7), func(l, r design.Expr) design.Expr { return let("x", l, r) }),
		chain(499, truth(true), negated),
		fn("x", chain(498, x, func(e design.Expr) design.Expr { return apply(e, x) })),
		chain(499, num(1), func(e design.Expr) design.Expr { return fn("x", e) }),
		chain(499, num(1), func(e design.Expr) design.Expr { return let("x", num(2), e) }),
		chain(499, num(1), func(e design.Expr) design.Expr { return rec("f", "x", x, e) }),
		chain(499, num(1), func(e design.Expr) design.Expr { return rec("f", "x", e, num(1)) }),
		chain(499, num(1), func(e design.Expr) design.Expr { return choice(truth(true), e, num(2)) }),
	}
}

// tooLarge returns expressions beyond the limits.
func tooLarge() map[string]design.Expr {
	endless := make([]design.Expr, 1)
	endless[0] = fn("x", num(1))
	endless[0].Kids = endless
	wide := make([]design.Expr, 2)
	wide[0], wide[1] = pair(num(1), num(1)), pair(num(1), num(1))
	wide[0].Kids, wide[1].Kids = wide, wide
	return map[string]design.Expr{
		"5001 nodes":            fn("x", fn("y", balanced(2500, num(7)))),
		"501 deep":              chain(500, truth(true), negated),
		"501 deep in a rest":    chain(500, num(1), func(e design.Expr) design.Expr { return let("x", num(2), e) }),
		"Kids of themselves":    endless[0],
		"pairs of themselves":   wide[0],
		"2^400 nodes":           chain(400, num(1), func(e design.Expr) design.Expr { return pair(e, e) }),
		"a million Kids":        with(kindPair, make([]design.Expr, 1_000_000)...),
		"a deep part that fits": pair(num(1), chain(500, num(1), func(e design.Expr) design.Expr { return fn("x", e) })),
	}
}

// badNodes returns expressions that are not valid in one node.
func badNodes() map[string]design.Expr {
	x, one := name("x"), num(1)
	m := map[string]design.Expr{
		"kind -1":                      {Kind: -1},
		"kind 11":                      {Kind: 11},
		"kind 11 with a Kid":           with(11, one),
		"a number above":               num(1_000_000_001),
		"a number below":               num(-1_000_000_001),
		"the least number":             num(-1 << 63),
		"truth 2":                      {Kind: kindTruth, N: 2},
		"truth -1":                     {Kind: kindTruth, N: -1},
		"a mask of 5 variables":        cloth("5 T"),
		"a mask of 8 variables":        cloth("8 T"),
		"no mask":                      cloth(""),
		"a mask in another form":       cloth("06 T"),
		"a mask with a blank":          cloth("6 T "),
		"a mask that is not reduced":   cloth("6 1?1:1"),
		"a function with two Kids":     {Kind: kindFunction, Name: "x", Kids: []design.Expr{one, one}},
		"a function without":           {Kind: kindFunction, Name: "x"},
		"an application of one":        with(kindApplication, x),
		"an application of three":      with(kindApplication, x, one, one),
		"a let with one Kid":           {Kind: kindLet, Name: "x", Kids: []design.Expr{one}},
		"a let with three":             {Kind: kindLet, Name: "x", Kids: []design.Expr{one, one, one}},
		"a recursion with one Kid":     {Kind: kindRecursion, Name: "f", Arg: "x", Kids: []design.Expr{one}},
		"a recursion with three":       {Kind: kindRecursion, Name: "f", Arg: "x", Kids: []design.Expr{one, one, one}},
		"a recursion of one name":      rec("f", "f", one, one),
		"a recursion without an Arg":   rec("f", "", one, one),
		"a recursion without a Name":   rec("", "x", one, one),
		"a recursion with a bad Arg":   rec("f", "in", one, one),
		"a choice of two":              with(kindChoice, truth(true), one),
		"a choice of four":             with(kindChoice, truth(true), one, one, one),
		"a pair of one":                with(kindPair, one),
		"a pair of three":              with(kindPair, one, one, one),
		"no operator":                  op(""),
		"no operator with one operand": op("", one),
		"an unknown operator":          op("/", one, one),
		"an unknown word":              op("cell", one),
		"a number with a Name":         {Name: "x"},
		"a number with a Kid":          {Kids: []design.Expr{one}},
		"a truth with a Name":          {Kind: kindTruth, Name: "true"},
		"a truth with a Kid":           with(kindTruth, one),
		"a mask with a Kid":            {Kind: kindMask, Name: "6 T", Kids: []design.Expr{one}},
		"a variable with a Kid":        {Kind: kindVariable, Name: "x", Kids: []design.Expr{one}},
		"an application with a Name":   {Kind: kindApplication, Name: "x", Kids: []design.Expr{x, x}},
		"a choice with a Name":         {Kind: kindChoice, Name: "x", Kids: []design.Expr{truth(true), x, x}},
		"a pair with a Name":           {Kind: kindPair, Name: "x", Kids: []design.Expr{x, x}},
	}
	for _, e := range examples() {
		what := "kind " + strconv.Itoa(e.Kind)
		if e.Kind > kindTruth {
			e.N = 1
			m[what+" with an N"] = e
			e.N = 0
		}
		if e.Kind != kindRecursion {
			e.Arg = "y"
			m[what+" with an Arg"] = e
			e.Arg = ""
		}
		if e.Kind == kindVariable || e.Kind == kindFunction || e.Kind == kindLet || e.Kind == kindRecursion {
			for _, s := range badNames() {
				e.Name = s
				m[what+" named "+strconv.Quote(s[:min(len(s), 20)])] = e
			}
		}
	}
	for _, operator := range sorted(operators) {
		n := len(operators[operator]) - 1
		m["no operands of "+operator] = op(operator)
		m["too many operands of "+operator] = op(operator, slices.Repeat([]design.Expr{x}, n+1)...)
		m["too few operands of "+operator] = op(operator, slices.Repeat([]design.Expr{x}, n-1)...)
	}
	return m
}

// examples returns a valid expression of each kind.
func examples() []design.Expr {
	x := name("x")
	return []design.Expr{num(1), truth(true), cloth("6 T"), x, fn("x", x), apply(x, x), let("x", x, x), rec("f", "x", x, x), choice(x, x, x), op("+", x, x), pair(x, x)}
}

func badNames() []string {
	l := []string{"", "1", "1x", "_", "x_", "x y", "x ", " x", "X", "xX", "é", "x\x00", "abcdefghijklm", strings.Repeat("x", 100000), "fn", "let", "rec", "in", "if", "then", "else", "true", "false", "`", "{", "/", ":", "x`", "x{", "x/", "x:"}
	return append(l, sorted(operators)...)
}

// badExprs returns expressions that are not valid, for all reasons, also as parts of others.
func badExprs() map[string]design.Expr {
	m := badNodes()
	for _, what := range sorted(m) {
		e := m[what]
		m["a left part: "+what] = pair(e, num(1))
		m["inside: "+what] = fn("x", op("rect", num(1), num(1), name("x"), e))
	}
	maps.Copy(m, tooLarge())
	return m
}
