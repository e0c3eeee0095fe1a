package design_test

import (
	"slices"
	"strings"
	"testing"

	"canting/api"
	"canting/design"
)

func TestP9_1_ByHand(t *testing.T) {
	for s, want := range map[string]string{
		"f x y":                                  "((f x) y)",
		"1 - 2 - 3":                              "((1 - 2) - 3)",
		"1 - (2 - 3)":                            "(1 - (2 - 3))",
		"1 + 2 * 3":                              "(1 + (2 * 3))",
		"1 * 2 + 3":                              "((1 * 2) + 3)",
		"1 + 2 < 3 * 4":                          "((1 + 2) < (3 * 4))",
		"1 < 2 = 3 < 4":                          "(((1 < 2) = 3) < 4)",
		"a & b | c & d":                          "((a & b) | (c & d))",
		"a | b & c | d":                          "((a | (b & c)) | d)",
		"a = b & c < d":                          "((a = b) & (c < d))",
		"a * f x * b":                            "((a * (f x)) * b)",
		"f 1 _2":                                 "((f 1) _2)",
		"f _2":                                   "(f _2)",
		"f - 2":                                  "(f - 2)",
		"f-2":                                    "(f - 2)",
		"1-_2":                                   "(1 - _2)",
		"1_2":                                    "(1 _2)",
		"x_2":                                    "(x _2)",
		"x1":                                     "x1",
		"x 1":                                    "(x 1)",
		"fn x -> fn y -> x y":                    "(fn x -> (fn y -> (x y)))",
		"fn x->x|x":                              "(fn x -> (x | x))",
		"fn\nx\n->\nx":                           "(fn x -> x)",
		"let x = 1 in x + 1":                     "(let x = 1 in (x + 1))",
		"let x = let y = 1 in y in x":            "(let x = (let y = 1 in y) in x)",
		"let rec f x = f x in f 1":               "(let rec f x = (f x) in (f 1))",
		"let recf = 1 in recf":                   "(let recf = 1 in recf)",
		"if 1 < 2 then 3 else 4 + 5":             "(if (1 < 2) then 3 else (4 + 5))",
		"if true then if 1 then 2 else 3 else 4": "(if true then (if 1 then 2 else 3) else 4)",
		"(1, 2)":                                 "(1, 2)",
		"f(1, 2)":                                "(f (1, 2))",
		"f (1)(2)":                               "((f 1) 2)",
		"((1, 2), (((3))))":                      "((1, 2), 3)",
		"(fn x -> x, 1)":                         "((fn x -> x), 1)",
		"not(true)":                              "not(true)",
		"not ( true ) x":                         "(not(true) x)",
		"x not(true)":                            "(x not(true))",
		"comp(turn(a)) | shift(1,_2,b)":          "(comp(turn(a)) | shift(1, _2, b))",
		"rect(0, 1, 2, 3)":                       "rect(0, 1, 2, 3)",
		"has(m, 1, 2 + 3)":                       "has(m, 1, (2 + 3))",
		"fst((1, 2)) + snd((3, 4))":              "(fst((1, 2)) + snd((3, 4)))",
		"count(fn x -> x)":                       "count((fn x -> x))",
		"{6 T}":                                  "{6 T}",
		"f{6 T}1{6 F}x":                          "((((f {6 T}) 1) {6 F}) x)",
		"{6 0?1:0}&x":                            "({6 0?1:0} & x)",
		"true false":                             "(true false)",
		"truefalse":                              "truefalse",
		"_1000000000":                            "_1000000000",
		"1000000000":                             "1000000000",
		"0":                                      "0",
		"_1":                                     "_1",
		"abcdefghijkl":                           "abcdefghijkl",
		"a12345678901":                           "a12345678901",
		" \n 1 \n ":                              "1",
	} {
		e, bad := design.Parse(s)
		if bad != api.OK {
			t.Errorf("Parse(%q): %v", s, bad)
			continue
		}
		if got, bad := design.Print(e); got != want || bad != api.OK {
			t.Errorf("%q printed: %q, %v, want %q", s, got, bad, want)
		}
	}
}

func TestP9_1_Fields(t *testing.T) {
	for s, want := range map[string]design.Expr{
		"_7":                     {N: -7},
		"true":                   {Kind: 1, N: 1},
		"false":                  {Kind: 1},
		"{6 T}":                  {Kind: 2, Name: "6 T"},
		"x":                      {Kind: 3, Name: "x"},
		"fn x -> 1":              {Kind: 4, Name: "x", Kids: []design.Expr{num(1)}},
		"f 1":                    {Kind: 5, Kids: []design.Expr{name("f"), num(1)}},
		"let x = 1 in 2":         {Kind: 6, Name: "x", Kids: []design.Expr{num(1), num(2)}},
		"let rec f x = 1 in 2":   {Kind: 7, Name: "f", Arg: "x", Kids: []design.Expr{num(1), num(2)}},
		"if x then 1 else 2":     {Kind: 8, Kids: []design.Expr{name("x"), num(1), num(2)}},
		"1 < 2":                  {Kind: 9, Name: "<", Kids: []design.Expr{num(1), num(2)}},
		"shift(1, 2, x)":         {Kind: 9, Name: "shift", Kids: []design.Expr{num(1), num(2), name("x")}},
		"(1, 2)":                 {Kind: 10, Kids: []design.Expr{num(1), num(2)}},
		"let x = fn y -> y in x": let("x", fn("y", name("y")), name("x")),
	} {
		if e, bad := design.Parse(s); !same(e, want) || bad != api.OK {
			t.Errorf("Parse(%q): %v, %v, want %v", s, e, bad, want)
		}
	}
}

func TestP9_1_NoProgram(t *testing.T) {
	l := []string{
		"", " ", "\n", "()", "(", ")", "(1", "1)", "(1,", "(1, 2", "(1, 2, 3)", "(,)", "(1,)", ",",
		"_0", "01", "00", "_01", "_", "_ 1", "__1", "1_", "1x", "_1x", "1000000001", "_1000000001", "99999999999999999999999", "1.5", "0x1", "+1", "-1", "1e1",
		"fn -> 1", "fn x", "fn x ->", "fn x 1", "fn x - > 1", "fn x = 1", "fn 1 -> 1", "fn (x) -> 1", "fn x y -> 1", "fn fn -> 1", "fn not -> 1", "fn true -> 1",
		"let x = 1", "let x = 1 in", "let x 1 in 1", "let = 1 in 1", "let 1 = 1 in 1", "let in = 1 in 1", "let x y = 1 in 1", "let x = in 1", "let count = 1 in 1",
		"let rec f = 1 in 1", "let rec f f = 1 in f", "let rec f x 1 in 1", "let rec f x = 1", "let rec = 1 in 1", "let rec f x y = 1 in 1", "let rec f in = 1 in 1", "let rec rec x = 1 in 1", "rec f x = 1 in 1",
		"if true then 1", "if true else 1", "if then 1 else 2", "if true then else 1", "if true then 1 else", "if true 1 else 2", "then", "else", "in", "rec",
		"1 +", "+ 1", "1 + + 1", "1 + fn x -> x", "f fn x -> x", "f let x = 1 in x", "1 < if true then 1 else 2", "1 -> 2", "x = ", "= x", "a == b", "a <= b", "a < = b", "a || b", "a && b", "1 * * 1", "1 / 2",
		"not", "not true", "not()", "not(true, true)", "not(true", "not true)", "fst", "fst(1, 2)", "rect", "rect()", "rect(1)", "rect(1, 2)", "rect(1, 2, 3)", "rect(1, 2, 3, 4, 5)", "shift(1, 2)", "has(1, 2)", "count(1, 2)", "comp(", "turn)", "snd(,)", "x(1, 2, 3)",
		"{", "}", "{}", "{6 T", "6 T}", "{5 T}", "{7 T}", "{ 6 T}", "{6 T }", "{6  T}", "{06 T}", "{6 X}", "{6 t}", "{{6 T}}", "{6 0?0:0}", "{6\nT}", "{6 1?1:0 0?2:2}",
		"X", "xX", "x'", "x.y", "x;", "[1]", "é", "x\x00", "\t1", "1\t", "1\r\n", "\v1", "a\u00a0b", "\"x\"", "#", "abcdefghijklm", "a123456789012", "x\xff", "x!", "@", "`", "~",
		"(not)", "x in", "x then y", "x rec", "1 fn", "true = false true in",
	}
	for _, s := range l {
		if e, bad := design.Parse(s); bad != api.ErrForm || !isZero(e) {
			t.Errorf("Parse(%q): %v, %v", s, e, bad)
		}
	}
}

// glued reports whether two tokens without a blank between them would be read in another way.
func glued(a, b string) bool {
	last, first := a[len(a)-1], b[0]
	isDigit := first >= '0' && first <= '9'
	isLetter := first >= 'a' && first <= 'z'
	ends := last >= 'a' && last <= 'z' || last >= '0' && last <= '9'
	return ends && (isDigit || isLetter) || a == "-" && b == ">"
}

// spaced returns tokens as a program.
func (m maker) spaced(tokens []string) string {
	var b strings.Builder
	for k, token := range tokens {
		if k > 0 && (glued(tokens[k-1], token) || m.Intn(3) == 0) {
			b.WriteString(m.of(" ", "\n", "  ", " \n "))
		}
		b.WriteString(token)
	}
	return b.String()
}

// tokensOf returns the tokens of a program as Print writes it.
func tokensOf(s string) []string {
	var l []string
	for s = strings.TrimLeft(s, " "); s != ""; s = strings.TrimLeft(s, " ") {
		n := 1
		switch c := s[0]; {
		case c == '{':
			n = strings.IndexByte(s, '}') + 1
		case strings.HasPrefix(s, "->"):
			n = 2
		case strings.IndexByte("()=<+-*|&,", c) < 0:
			n = len(s) - len(strings.TrimLeft(s[1:], "abcdefghijklmnopqrstuvwxyz0123456789"))
		}
		l = append(l, s[:n])
		s = s[n:]
	}
	return l
}

// TestP9_1_Grammar compares Parse with all ways to read tokens by the rules of the grammar: of programs, of programs with a fault, and of tokens by chance.
func TestP9_1_Grammar(t *testing.T) {
	m := newMaker(901)
	all := append(sorted(operators), "fn", "let", "rec", "in", "if", "then", "else", "true", "false", "x", "y", "x", "f", "1", "_2", "30", "{6 T}", "(", ")", ",", "->", "=", "(", ")", "->", "abcdefghijklm")
	met := map[api.Errno]int{}
	for k := range 30000 {
		tokens := tokensOf(printOf(m.any(1+m.Intn(12), []string{"x", "y"})))
		switch k % 4 {
		case 0:
			tokens = nil
			for range 1 + m.Intn(6) {
				tokens = append(tokens, m.of(all...))
			}
		case 1, 2:
			for range 1 + m.Intn(2) {
				at := m.Intn(len(tokens) + 1)
				with := []string{m.of(all...)}
				if m.Intn(2) == 0 {
					with = nil
				}
				tokens = slices.Replace(slices.Clone(tokens), at, min(at+m.Intn(2), len(tokens)), with...)
			}
		}
		if len(tokens) == 0 || len(tokens) > 40 {
			continue
		}
		s := m.spaced(tokens)
		want := grammar(tokens).readings()
		got, bad := design.Parse(s)
		met[bad]++
		switch {
		case len(want) > 1:
			t.Fatalf("%q can be read in %d ways", s, len(want))
		case len(want) == 0 && (bad != api.ErrForm || !isZero(got)):
			t.Errorf("Parse(%q): %v, %v, but it is no program", s, got, bad)
		case len(want) == 1 && (bad != api.OK || !same(got, want[0])):
			t.Errorf("Parse(%q): %v, %v, want %v", s, got, bad, want[0])
		}
	}
	if met[api.OK] < 8000 || met[api.ErrForm] < 8000 {
		t.Errorf("too few of both: %v", met)
	}
}

func TestP9_1_Sizes(t *testing.T) {
	nots := func(n int) string { return strings.Repeat("not(", n) + "1" + strings.Repeat(")", n) }
	sum := func(n int) string { return "1" + strings.Repeat("+(1", n-1) + strings.Repeat(")", n-1) }
	wide := func(nodes int) string { return printOf(balanced((nodes+1)/2, num(1))) }
	for what, x := range map[string]struct {
		s    string
		want api.Errno
	}{
		"4000 bytes":                         {strings.Repeat(" ", 3999) + "1", api.OK},
		"4001 bytes":                         {strings.Repeat(" ", 4000) + "1", api.ErrSize},
		"4000 bytes that are no program":     {strings.Repeat(" ", 3999) + "%", api.ErrForm},
		"4001 bytes that are no program":     {strings.Repeat(" ", 4000) + "%", api.ErrSize},
		"4001 brackets":                      {strings.Repeat("(", 4001), api.ErrSize},
		"4000 brackets":                      {strings.Repeat("(", 4000), api.ErrForm},
		"brackets in brackets":               {strings.Repeat("(", 1999) + "1" + strings.Repeat(")", 1999), api.OK},
		"60 deep":                            {nots(59), api.OK},
		"61 deep":                            {nots(60), api.ErrSize},
		"61 deep, no program":                {nots(60) + ")", api.ErrForm},
		"60 deep to the right":               {sum(60), api.OK},
		"61 deep to the right":               {sum(61), api.ErrSize},
		"60 deep to the left":                {"1" + strings.Repeat("-1", 59), api.OK},
		"61 deep to the left":                {"1" + strings.Repeat("-1", 60), api.ErrSize},
		"60 deep by applications":            {"f" + strings.Repeat(" 1", 59), api.OK},
		"61 deep by applications":            {"f" + strings.Repeat(" 1", 60), api.ErrSize},
		"2000 deep by applications":          {"f" + strings.Repeat(" 1", 1999), api.ErrSize},
		"299 nodes":                          {wide(299), api.OK},
		"300 nodes":                          {"not(" + wide(299) + ")", api.OK},
		"301 nodes":                          {wide(301), api.ErrSize},
		"301 nodes, one of them at the root": {"not(not(" + wide(299) + "))", api.ErrSize},
		"301 nodes, no program":              {wide(301) + "(", api.ErrForm},
		"far too long":                       {strings.Repeat("1 ", 1_000_000), api.ErrSize},
	} {
		e, bad := design.Parse(x.s)
		if bad != x.want || bad != api.OK && !isZero(e) {
			t.Errorf("%s: %v, want %v", what, bad, x.want)
		}
	}
}

func TestP9_1_Print(t *testing.T) {
	m := newMaker(902)
	for _, e := range slices.Concat(m.mixed(3000, 60), m.designs(300, 4, nil), large(), examples()) {
		if got, bad := design.Print(e); got != printOf(e) || bad != api.OK {
			t.Errorf("Print: %s, %v, want %s", brief(got), bad, brief(printOf(e)))
		}
	}
	for range 300 {
		e := m.any(40, []string{"x", "y", "zz9"})
		if got, bad := design.Print(e); got != printOf(e) || bad != api.OK {
			t.Errorf("Print: %s, %v, want %s", brief(got), bad, brief(printOf(e)))
		}
	}
}

// TestP9_Arguments checks what all functions answer to expressions that are not valid, and that they take all that are.
func TestP9_Arguments(t *testing.T) {
	bad := badExprs()
	for _, what := range sorted(bad) {
		e := bad[what]
		if s, x := design.Print(e); s != "" || x != api.ErrArg {
			t.Errorf("%s: Print: %.99q, %v", what, s, x)
		}
		if l, x := design.Free(e); len(l) != 0 || x != api.ErrArg {
			t.Errorf("%s: Free: %q, %v", what, l, x)
		}
		if s, x := design.Infer(e); s != "" || x != api.ErrArg {
			t.Errorf("%s: Infer: %q, %v", what, s, x)
		}
		if u, x := design.Step(e); !isZero(u) || x != api.ErrArg {
			t.Errorf("%s: Step: %s, %v", what, brief(u), x)
		}
		for _, fuel := range []int{-1, 0, 10, 10000, 10001} {
			if u, n, x := design.Run(e, fuel); !isZero(u) || n != 0 || x != api.ErrArg {
				t.Errorf("%s: Run: %s, %d, %v", what, brief(u), n, x)
			}
		}
		if s, x := design.Show(e); s != "" || x != api.ErrArg {
			t.Errorf("%s: Show: %.99q, %v", what, s, x)
		}
		if c, x := design.Compile(e); len(c) != 0 || x != api.ErrArg {
			t.Errorf("%s: Compile: %s, %v", what, brief(c), x)
		}
	}
	for _, e := range slices.Concat(large(), examples()) {
		if _, x := design.Print(e); x != api.OK {
			t.Errorf("Print(%.99s): %v", printOf(e), x)
		}
	}
}

// TestP9_Names checks which names there are.
func TestP9_Names(t *testing.T) {
	for _, s := range []string{"a", "z", "a0", "z9", "az09", "abcdefghijkl", "fnx", "lets", "rec1", "i", "ifs", "truex", "nott", "hast", "in2", "fs", "comp1", "rects"} {
		if got, bad := design.Print(fn(s, name(s))); got != "(fn "+s+" -> "+s+")" || bad != api.OK {
			t.Errorf("%q as a name: %q, %v", s, got, bad)
		}
		if e, bad := design.Parse("let rec " + s + " y = 1 in " + s); !same(e, rec(s, "y", num(1), name(s))) || bad != api.OK {
			t.Errorf("%q as a name: %v, %v", s, e, bad)
		}
	}
	for _, s := range badNames() {
		if l, bad := design.Free(name(s)); len(l) != 0 || bad != api.ErrArg {
			t.Errorf("Free of the name %.20q: %q, %v", s, l, bad)
		}
	}
}
