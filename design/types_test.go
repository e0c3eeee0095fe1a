package design_test

import (
	"slices"
	"strconv"
	"strings"
	"testing"

	"canting/api"
	"canting/design"
)

func TestP9_2_Free(t *testing.T) {
	m := newMaker(921)
	for range 5000 {
		e := m.any(1+m.Intn(60), []string{"a", "b", "x", "z"})
		if got, bad := design.Free(e); !slices.Equal(got, freeOf(e)) || bad != api.OK {
			t.Errorf("Free(%s): %q, %v, want %q", printOf(e), got, bad, freeOf(e))
		}
	}
}

func TestP9_2_FreeByHand(t *testing.T) {
	for s, want := range map[string]string{
		"1":                                   "",
		"x":                                   "x",
		"y x y":                               "y x",
		"fn x -> x":                           "",
		"fn x -> y":                           "y",
		"(fn x -> x) x":                       "x",
		"x (fn x -> x)":                       "x",
		"let x = x in x":                      "x",
		"let x = y in x":                      "y",
		"let x = 1 in x y":                    "y",
		"let rec f x = f x in f":              "",
		"let rec f x = y in x":                "y x",
		"let rec f x = x in x f":              "x",
		"let rec f x = f (x z) in f y x":      "z y x",
		"fn x -> fn x -> x":                   "",
		"fn x -> (fn x -> x) x":               "",
		"(fn x -> fn y -> x y z) y":           "z y",
		"if c then b else a":                  "c b a",
		"rect(d, c, b, a) | shift(e, d, f)":   "d c b a e f",
		"(b, a)":                              "b a",
		"(fn x -> 1, x)":                      "x",
		"let f = fn x -> x in let x = f in y": "y",
	} {
		if got, bad := design.Free(parse(t, s)); strings.Join(got, " ") != want || bad != api.OK {
			t.Errorf("Free(%s): %q, %v, want %s", s, got, bad, want)
		}
	}
}

// TestP9_2_Infer compares Infer with types as trees and lists of equations.
func TestP9_2_Infer(t *testing.T) {
	m := newMaker(922)
	met := map[api.Errno]int{}
	l := slices.Concat(m.designs(3000, 4, nil), m.mixed(20000, 25), m.mixed(2000, 60))
	for range 20000 {
		l = append(l, m.pure(2+m.Intn(9), nil))
	}
	for range 500 {
		l = append(l, m.any(20, []string{"x", "y"}))
	}
	for _, e := range l {
		want, f := inferOf(e)
		met[f]++
		if got, bad := design.Infer(e); got != want || bad != f {
			t.Errorf("Infer(%s): %s, %v, want %s, %v", printOf(e), got, bad, want, f)
		}
	}
	if met[api.OK] < 10000 || met[api.ErrType] < 5000 || met[api.ErrNone] < 100 {
		t.Errorf("too few of them: %v", met)
	}
}

// pure returns an expression of functions, applications, lets, recursive functions and pairs, whose free names are from a list.
func (m maker) pure(most int, names []string) design.Expr {
	if most <= 1 && len(names) > 0 {
		return name(m.of(names...))
	}
	if most <= 1 {
		return num(1)
	}
	x := m.of("x", "y", "z")
	inside := append(slices.Clip(names), x)
	part := 1 + m.Intn(most-1)
	switch m.Intn(6) {
	case 0, 1:
		return apply(m.pure(part, names), m.pure(most-part, names))
	case 2:
		return let(x, m.pure(part, names), m.pure(most-part, inside))
	case 3:
		return rec("f", x, m.pure(part, append(inside, "f")), m.pure(most-part, append(slices.Clip(names), "f")))
	case 4:
		return pair(m.pure(part, names), m.pure(most-part, names))
	}
	return fn(x, m.pure(most-1, inside))
}

func TestP9_2_InferByHand(t *testing.T) {
	for s, want := range map[string]string{
		"1":                                  "int",
		"true":                               "bool",
		"{6 T}":                              "mask",
		"fn x -> x":                          "(a -> a)",
		"fn x -> fn y -> x":                  "(a -> (b -> a))",
		"fn x -> fn y -> y":                  "(a -> (b -> b))",
		"fn y -> fn x -> (x, y)":             "(a -> (b -> (b * a)))",
		"fn f -> fn g -> fn x -> f (g x)":    "((a -> b) -> ((c -> a) -> (c -> b)))",
		"fn f -> fn g -> fn x -> f x (g x)":  "((a -> (b -> c)) -> ((a -> b) -> (a -> c)))",
		"let rec f x = f x in f":             "(a -> b)",
		"let rec f x = f x in f 1":           "a",
		"let rec f x = f x in (f 1, f true)": "(a * b)",
		"let rec f x = x in (f 1, f true)":   "(int * bool)",
		"fn x -> let y = x in (y, y)":        "(a -> (a * a))",
		"fn x -> let y = fn z -> (x, z) in (y 1, y true)":   "(a -> ((a * int) * (a * bool)))",
		"fn x -> let rec f y = (x, y) in (f 1, f true)":     "(a -> ((a * int) * (a * bool)))",
		"let p = fn x -> fn y -> fn c -> c x y in p 1 true": "((int -> (bool -> a)) -> a)",
		"fn p -> (snd(p), fst(p))":                          "((a * b) -> (b * a))",
		"fn a -> fn b -> fn c -> if a then b else c":        "(bool -> (a -> (a -> a)))",
		"fn x -> x + 1":                                    "(int -> int)",
		"fn x -> x - 1 * x":                                "(int -> int)",
		"fn x -> x = 1":                                    "(int -> bool)",
		"fn x -> fn y -> x < y":                            "(int -> (int -> bool))",
		"fn x -> fn y -> x | y & x":                        "(mask -> (mask -> mask))",
		"fn x -> not(x)":                                   "(bool -> bool)",
		"fn x -> comp(turn(x))":                            "(mask -> mask)",
		"fn x -> count(x)":                                 "(mask -> int)",
		"fn a -> fn b -> fn c -> shift(a, b, c)":           "(int -> (int -> (mask -> mask)))",
		"fn a -> fn b -> fn c -> has(a, b, c)":             "(mask -> (int -> (int -> bool)))",
		"fn a -> fn b -> fn c -> fn d -> rect(a, b, c, d)": "(int -> (int -> (int -> (int -> mask))))",
		"fn x -> fst(x)":                                   "((a * b) -> a)",
		"fn x -> snd(x)":                                   "((a * b) -> b)",
		"let x = 1 in let x = true in x":                   "bool",
		"fn x -> fn x -> x":                                "(a -> (b -> b))",
		"let id = fn x -> x in id id":                      "(a -> a)",
		"fn x -> (let y = x in y) + 1":                     "(int -> int)",
	} {
		if got, bad := design.Infer(parse(t, s)); got != want || bad != api.OK {
			t.Errorf("Infer(%s): %s, %v, want %s", s, got, bad, want)
		}
	}
	for _, s := range []string{
		"1 2", "true 1", "1 + true", "true + 1", "1 - {6 T}", "true * 1", "true = true", "{6 T} < 1", "1 | {6 T}", "{6 T} & 1", "not(1)", "comp(1)", "turn(true)", "count(1)",
		"fst(1)", "snd(fn x -> x)", "shift({6 T}, 1, 1)", "shift(1, true, {6 T})", "has(1, 1, {6 T})", "has({6 T}, true, 1)", "rect(1, 1, 1, true)", "rect(true, 1, 1, 1)",
		"if 1 then 2 else 3", "if true then 1 else true", "fn x -> x x", "fn x -> (x 1, x true)", "(fn i -> (i 1, i true)) (fn x -> x)", "let rec f x = f in f", "let rec f x = (f 1, f true) in 1",
		"let rec f x = f (fn y -> y) + x in f", "fn x -> let y = x in (y 1, y true)", "let x = 1 true in 2", "fn f -> let rec g x = f g in f (fn x -> x) + f 1", "(1, 1 1)", "fn x -> if x then x else x + 1",
		"fn f -> fn x -> (f x, x (f x)) 1", "let d = fn x -> (x, x) in fst(d) 1", "fn x -> fn y -> (if true then x else y, (x 1, y + 1))", "(fn x -> x + 1) true", "fn g -> g (g, g)",
	} {
		if got, bad := design.Infer(parse(t, s)); got != "" || bad != api.ErrType {
			t.Errorf("Infer(%s): %s, %v", s, got, bad)
		}
	}
	for _, s := range []string{"x", "fn x -> y", "1 + true + x", "let x = x in x", "(fn x -> x) x"} {
		if got, bad := design.Infer(parse(t, s)); got != "" || bad != api.ErrNone {
			t.Errorf("Infer(%s): %s, %v", s, got, bad)
		}
	}
}

func TestP9_2_Variables(t *testing.T) {
	var parts []string
	e, want := num(1), "int"
	for k := range 240 {
		x := "x" + strconv.Itoa(k)
		parts = append(parts, x)
		e = fn(x, e)
	}
	for k := len(parts) - 1; k >= 0; k-- {
		v := string(rune('a' + k%26))
		if k >= 26 {
			v += strconv.Itoa(k / 26)
		}
		want = "(" + v + " -> " + want + ")"
	}
	if got, bad := design.Infer(e); got != want || bad != api.OK {
		t.Errorf("%s, %v, want %s", got, bad, want)
	}
	if !strings.HasPrefix(want, "(a -> (b -> ") || !strings.Contains(want, "(z -> (a1 -> (b1 -> ") || !strings.Contains(want, "(z1 -> (a2 -> ") {
		t.Error(want)
	}
	if ok, bad := design.Instance(want, want); !ok || bad != api.OK {
		t.Errorf("Instance: %v, %v", ok, bad)
	}
}

// TestP9_2_Sizes checks which types are too large, and when.
func TestP9_2_Sizes(t *testing.T) {
	one, id := num(1), fn("x", name("x"))
	fits, tooBig := balanced(250, one), balanced(251, one) // types of 499 and 501 nodes
	first := func(e design.Expr) design.Expr { return op("fst", pair(one, e)) }
	wrong := op("+", one, truth(true))
	twice := fn("x", pair(name("x"), name("x")))
	doubled := func(n int) design.Expr {
		return chain(n, one, func(e design.Expr) design.Expr { return apply(twice, e) })
	}
	for what, x := range map[string]struct {
		e    design.Expr
		want api.Errno
	}{
		"499 nodes":                              {fits, api.OK},
		"501 nodes":                              {tooBig, api.ErrSize},
		"499 nodes of variables":                 {fn("x", balanced(249, name("x"))), api.OK},
		"501 nodes of variables":                 {fn("x", balanced(250, name("x"))), api.ErrSize},
		"501 nodes that are not left":            {first(tooBig), api.OK},
		"a let of 499":                           {let("x", fits, one), api.OK},
		"a let of 501":                           {let("x", tooBig, one), api.ErrSize},
		"a let of 501 in a function":             {fn("y", let("x", tooBig, one)), api.ErrSize},
		"a let of 501 inside":                    {first(fn("y", let("x", tooBig, one))), api.ErrSize},
		"a rest of 501":                          {first(let("x", one, tooBig)), api.OK},
		"a recursive function of 499":            {rec("f", "x", balanced(249, one), one), api.OK},
		"a recursive function of 501":            {rec("f", "x", fits, one), api.ErrSize},
		"a rest of a recursive function":         {first(rec("f", "x", one, tooBig)), api.OK},
		"a parameter of 501":                     {first(apply(fn("x", one), tooBig)), api.OK},
		"a let of a parameter that grows later":  {first(apply(fn("x", let("y", name("x"), choice(truth(true), name("x"), tooBig))), tooBig)), api.OK},
		"a let of a parameter that has grown":    {first(fn("x", apply(fn("z", let("y", name("x"), one)), choice(truth(true), name("x"), tooBig)))), api.OK},
		"a let of a parameter that was large":    {first(fn("x", pair(choice(truth(true), name("x"), tooBig), let("y", name("x"), one)))), api.ErrSize},
		"a let of a part of a large parameter":   {first(fn("x", pair(choice(truth(true), name("x"), tooBig), let("y", op("fst", name("x")), one)))), api.OK},
		"size before no type":                    {pair(let("x", tooBig, one), wrong), api.ErrSize},
		"no type before size":                    {pair(wrong, let("x", tooBig, one)), api.ErrType},
		"the value before the rest":              {let("x", tooBig, wrong), api.ErrSize},
		"the size of the value before the rest":  {let("x", pair(tooBig, wrong), one), api.ErrType},
		"the rest of a let of a wrong value":     {let("x", wrong, let("y", tooBig, one)), api.ErrType},
		"Kids before the equation":               {apply(one, let("x", tooBig, one)), api.ErrSize},
		"Kids before the equation of a choice":   {choice(one, let("x", tooBig, one), one), api.ErrSize},
		"Kids before those of an operator":       {op("+", truth(true), let("x", tooBig, one)), api.ErrSize},
		"the equation of a Kid before":           {apply(wrong, let("x", tooBig, one)), api.ErrType},
		"a recursive function before its rest":   {rec("f", "x", name("f"), let("y", tooBig, one)), api.ErrType},
		"the body before its equation":           {rec("f", "x", let("y", tooBig, name("f")), one), api.ErrSize},
		"the equation before the size":           {rec("f", "x", pair(name("f"), tooBig), one), api.ErrType},
		"the size before the rest":               {rec("f", "x", tooBig, wrong), api.ErrSize},
		"the equation of a choice, then no type": {pair(choice(one, one, one), let("x", tooBig, one)), api.ErrType},
		"doubled 7 times":                        {doubled(7), api.OK},
		"doubled 8 times":                        {doubled(8), api.ErrSize},
		"doubled 400 times":                      {doubled(400), api.ErrSize},
		"doubled 400 times, but not left":        {first(doubled(400)), api.OK},
		"a let doubled 400 times":                {first(let("x", doubled(400), one)), api.ErrSize},
		"two that are doubled 400 times":         {first(choice(truth(true), doubled(400), doubled(400))), api.OK},
		"400 and 399 times":                      {first(choice(truth(true), doubled(400), doubled(399))), api.ErrType},
		"free before size":                       {let("x", tooBig, name("y")), api.ErrNone},
		"lets that double":                       {chain(20, name("x"), func(e design.Expr) design.Expr { return let("x", apply(twice, name("x")), e) }), api.ErrNone},
		"a let that doubles to 2^8":              {let("x", one, chain(8, one, func(e design.Expr) design.Expr { return let("x", pair(name("x"), name("x")), e) })), api.ErrSize},
		"a let that doubles to 2^7":              {let("x", one, chain(7, one, func(e design.Expr) design.Expr { return let("x", pair(name("x"), name("x")), e) })), api.OK},
		"500 functions around each other":        {first(chain(400, one, func(e design.Expr) design.Expr { return fn("x", e) })), api.OK},
		"identities of identities":               {chain(400, id, func(e design.Expr) design.Expr { return apply(e, id) }), api.OK},
	} {
		if got, bad := design.Infer(x.e); bad != x.want || (got == "") != (bad != api.OK) {
			t.Errorf("%s: %.99s, %v, want %v", what, got, bad, x.want)
		}
	}
}

// TestP9_2_DeepTypes has types that are far deeper than expressions can be.
func TestP9_2_DeepTypes(t *testing.T) {
	x, one := name("x"), num(1)
	deeper := fn("x", chain(200, x, func(e design.Expr) design.Expr { return pair(e, one) }))
	deep := func(n int) design.Expr {
		return chain(n, one, func(e design.Expr) design.Expr { return apply(name("f"), e) })
	}
	first := func(e design.Expr) design.Expr { return let("f", deeper, op("fst", pair(one, e))) }
	for k, want := range []api.Errno{api.ErrType, api.OK, api.ErrType} {
		e := first(choice(truth(true), deep(200), deep(199+k)))
		if got, bad := design.Infer(e); bad != want || (got == "int") != (bad == api.OK) {
			t.Errorf("a type of 40000 levels and one of %d: %s, %v, want %v", 200*(199+k), got, bad, want)
		}
	}
}

// someTypes returns types as Infer prints them.
func (m maker) someTypes(count int) []string {
	var l []string
	for range count {
		var make func(deep int) *tree
		make = func(deep int) *tree {
			if deep == 0 || m.Intn(4) == 0 {
				return &tree{what: m.of("int", "bool", "mask", "?1", "?2", "?3", "?1", "?2")}
			}
			return &tree{m.of("->", "*"), make(deep - 1), make(deep - 1)}
		}
		l = append(l, inOrder(make(m.Intn(4))).String())
	}
	return l
}

// treeOf reads a type; its variables are those without a capital.
func treeOf(s string) *tree {
	if s[0] != '(' {
		if !slices.Contains([]string{"int", "bool", "mask"}, s) {
			s = "?" + s
		}
		return &tree{what: s}
	}
	open := 0
	for k := range s {
		open += strings.Count(s[k:k+1], "(") - strings.Count(s[k:k+1], ")")
		if open == 1 && s[k] == ' ' {
			what, rest, _ := strings.Cut(s[k+1:], " ")
			return &tree{what, treeOf(s[1:k]), treeOf(rest[:len(rest)-1])}
		}
	}
	panic(s)
}

// instanceOf finds what stands at each variable of t.
func instanceOf(t, u *tree, at map[string]string) bool {
	if t.left == nil && isVariable(t) {
		was, ok := at[t.what]
		at[t.what] = u.String()
		return !ok || was == u.String()
	}
	if t.what != u.what || t.left == nil || u.left == nil {
		return t.what == u.what && t.left == nil && u.left == nil
	}
	return instanceOf(t.left, u.left, at) && instanceOf(t.right, u.right, at)
}

func TestP9_2_Instance(t *testing.T) {
	m := newMaker(923)
	met := map[bool]int{}
	all := m.someTypes(4000)
	for k, s := range all {
		u := all[(k+1)%len(all)]
		if k%2 == 0 {
			// One with types in place of the variables, and sometimes with a fault.
			names := map[string]*tree{}
			for _, v := range variablesOf(treeOf(s)) {
				names[v] = treeOf(m.someTypes(1)[0])
			}
			put := renamed(treeOf(s), names)
			if m.Intn(2) == 0 {
				put = renamed(put, map[string]*tree{"?a": m.someType(1), "int": {what: "?c"}})
			}
			u = inOrder(put).String()
		}
		if sizeOf(treeOf(u)) > 500 {
			continue
		}
		want := instanceOf(treeOf(s), treeOf(u), map[string]string{})
		met[want]++
		if ok, bad := design.Instance(s, u); ok != want || bad != api.OK {
			t.Errorf("Instance(%s, %s): %v, %v, want %v", s, u, ok, bad, want)
		}
	}
	if met[true] < 500 || met[false] < 500 {
		t.Errorf("too few of both: %v", met)
	}
}

func TestP9_2_InstanceByHand(t *testing.T) {
	for x, want := range map[[2]string]bool{
		{"a", "a"}:                       true,
		{"a", "int"}:                     true,
		{"a", "(a -> b)"}:                true,
		{"int", "a"}:                     false,
		{"int", "int"}:                   true,
		{"int", "bool"}:                  false,
		{"mask", "mask"}:                 true,
		{"(a -> b)", "(a -> a)"}:         true,
		{"(a -> a)", "(a -> b)"}:         false,
		{"(a -> a)", "(mask -> mask)"}:   true,
		{"(a -> a)", "(a * a)"}:          false,
		{"(a * a)", "(a -> a)"}:          false,
		{"(a * b)", "int"}:               false,
		{"int", "(a * b)"}:               false,
		{"(a -> b)", "(int -> (a * a))"}: true,
		{"(a -> (b -> a))", "((a -> b) -> (int -> (a -> b)))"}:         true,
		{"(a -> (b -> a))", "((a -> b) -> (int -> (b -> a)))"}:         false,
		{"(a -> (b -> a))", "((a -> a) -> (int -> (a * a)))"}:          false,
		{"(a -> (b -> a))", "((a -> b) -> (int -> (a -> a)))"}:         false,
		{"(a -> (b -> a))", "((a -> b) -> (int -> (b -> b)))"}:         false,
		{"(a -> (b -> a))", "((a -> int) -> (int -> (a -> bool)))"}:    false,
		{"(a -> a)", "((a * (b * c)) -> (a * (b * c)))"}:               true,
		{"(a -> a)", "((a * (b * c)) -> (a * (b * a)))"}:               false,
		{"(a -> a)", "((a * (b * c)) -> (a * (c * c)))"}:               false,
		{"(a -> a)", "((a * int) -> (a * (int * int)))"}:               false,
		{"(a -> (a -> a))", "(int -> (int -> bool))"}:                  false,
		{"((a -> b) -> (a -> b))", "((int -> bool) -> (int -> bool))"}: true,
		{"(int -> a)", "(bool -> a)"}:                                  false,
	} {
		if ok, bad := design.Instance(x[0], x[1]); ok != want || bad != api.OK {
			t.Errorf("Instance%q: %v, %v, want %v", x, ok, bad, want)
		}
	}
}

func TestP9_2_InstanceForms(t *testing.T) {
	var deep, left = "int", "int"
	for range 249 {
		deep, left = "(int -> "+deep+")", "("+left+" * int)"
	}
	for _, s := range []string{"a", deep, left} {
		if ok, bad := design.Instance(s, s); !ok || bad != api.OK {
			t.Errorf("Instance(%.20s, %.20s): %v, %v", s, s, ok, bad)
		}
	}
	l := []string{
		"", " ", "b", "z", "a1", "A", "1", "int ", " int", "integer", "ints", "Int", "ab", "_", "a_", "()", "(", ")", "(a)", "((a))", "(int)", "a)", "(a", "a b", "a -> b", "a * b", "int -> int", "int int",
		"(a -> b", "a -> b)", "(a->b)", "(a  -> b)", "(a ->  b)", "( a -> b)", "(a -> b )", "(a -> b) ", " (a -> b)", "(a -> b))", "((a -> b)", "(a - b)", "(a * b * c)", "(a -> b -> c)", "(a, b)", "(a + b)", "(a  * b)", "(a*b)", "(a -> )", "( -> a)", "(-> a)", "( -> )", "( * )",
		"(b -> a)", "(a -> c)", "(a -> (c -> b))", "(b -> b)", "(a -> a1)", "(a -> b1)", "(a -> int1)", "(a -> a0)", "((a * b) -> (d * c))", "(int -> b)", "(a1 -> b1)", "(int -> fn)", "(a -> b)\n", "\x00", "é", "(a -> é)",
		"(int -> " + deep + ")", "(" + left + " * int)", strings.Repeat("(", 5000), strings.Repeat("(", 1_000_000), strings.Repeat("a", 5001), strings.Repeat("(a -> ", 800) + "a" + strings.Repeat(")", 800), strings.Repeat("(a * ", 2500),
	}
	for _, s := range l {
		for _, pair := range [][2]string{{s, "a"}, {"a", s}, {s, s}, {"int", s}, {s, "int"}} {
			if ok, bad := design.Instance(pair[0], pair[1]); ok || bad != api.ErrForm {
				t.Errorf("Instance(%.50q, %.50q): %v, %v", pair[0], pair[1], ok, bad)
			}
		}
	}
}
