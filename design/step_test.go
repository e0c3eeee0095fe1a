package design_test

import (
	"slices"
	"strings"
	"testing"

	"canting/api"
	"canting/design"
)

// TestP9_3_Step compares Step with the definition, from step to step.
func TestP9_3_Step(t *testing.T) {
	m := newMaker(931)
	met := map[api.Errno]int{}
	l := slices.Concat(m.designs(1500, 4, nil), m.mixed(6000, 30), m.mixed(500, 200))
	for range 1000 {
		l = append(l, m.any(20, []string{"x", "y"}))
	}
	for _, e := range l {
		for range 40 {
			want, f := stepOf(e)
			met[f]++
			got, bad := design.Step(e)
			if !same(got, want) || bad != f {
				t.Fatalf("Step(%s): %s, %v, want %s, %v", printOf(e), brief(got), bad, brief(want), f)
			}
			if f != api.OK || isValue(e) {
				break
			}
			e = got
		}
	}
	for _, e := range []api.Errno{api.OK, api.ErrFault, api.ErrRange, api.ErrNone} {
		if met[e] < 50 {
			t.Errorf("too few of them: %v", met)
		}
	}
}

func TestP9_3_ByHand(t *testing.T) {
	for s, want := range map[string]string{
		"(1 + 2) * 3":                            "3 * 3",
		"3 * 3":                                  "9",
		"1 + (2 * 3)":                            "1 + 6",
		"(1 + 2) * (3 + 4)":                      "3 * (3 + 4)",
		"(1 + 2, 3 + 4)":                         "(3, 3 + 4)",
		"(3, 3 + 4)":                             "(3, 7)",
		"(3, (4, 5 + 6))":                        "(3, (4, 11))",
		"(fn x -> x + x) 1":                      "1 + 1",
		"(fn x -> x) (1 + 2)":                    "(fn x -> x) 3",
		"(fn x -> fn y -> x) 1 2":                "(fn y -> 1) 2",
		"(fn x -> fn x -> x) 1":                  "fn x -> x",
		"(fn x -> (x, fn x -> x)) 1":             "(1, fn x -> x)",
		"(fn x -> let x = x in x) 1":             "let x = 1 in x",
		"(fn x -> let y = x in x) 1":             "let y = 1 in 1",
		"(fn x -> let rec f x = x in f x) 1":     "let rec f x = x in f 1",
		"(fn x -> let rec x y = x in x) 1":       "let rec x y = x in x",
		"(fn x -> let rec f y = x in x) 1":       "let rec f y = 1 in 1",
		"(fn x -> if x then x else x) true":      "if true then true else true",
		"(fn x -> has(x, 1, count(x))) {6 T}":    "has({6 T}, 1, count({6 T}))",
		"let x = 1 + 2 in x":                     "let x = 3 in x",
		"let x = 3 in x + x":                     "3 + 3",
		"let x = 3 in 4 + 5":                     "4 + 5",
		"let x = 3 in fn x -> x":                 "fn x -> x",
		"let x = fn y -> y in x x":               "(fn y -> y) (fn y -> y)",
		"let rec f x = f (x + 1) in f 7":         "(fn x -> let rec f x = f (x + 1) in f (x + 1)) 7",
		"let rec f x = x in 7":                   "7",
		"let rec f x = x in (f, f)":              "(fn x -> let rec f x = x in x, fn x -> let rec f x = x in x)",
		"let rec f x = x in fn f -> f":           "fn f -> f",
		"let rec f x = 1 + true in 2":            "2",
		"if 1 < 2 then 3 + 4 else 5":             "if true then 3 + 4 else 5",
		"if true then 3 + 4 else 5":              "3 + 4",
		"if false then 3 + 4 else 5 + 6":         "5 + 6",
		"if true then 1 else 2 3":                "1",
		"not(true)":                              "false",
		"not(false)":                             "true",
		"not(not(true))":                         "not(false)",
		"fst((1 + 2, 3))":                        "fst((3, 3))",
		"fst((3, true))":                         "3",
		"snd((3, true))":                         "true",
		"snd((3, (fn x -> x, 4)))":               "(fn x -> x, 4)",
		"1 = 1":                                  "true",
		"1 = 2":                                  "false",
		"1 < 1":                                  "false",
		"_1 < 0":                                 "true",
		"0 < _1":                                 "false",
		"0 - 5":                                  "_5",
		"_3 * _4":                                "12",
		"_3 + 3":                                 "0",
		"500000000 + 500000000":                  "1000000000",
		"0 - 1000000000":                         "_1000000000",
		"_31622 * 31622":                         "_999950884",
		"comp({6 T})":                            "{6 F}",
		"turn({6 F})":                            "{6 F}",
		"{6 T} & {6 F}":                          "{6 F}",
		"{6 T} | {6 F}":                          "{6 T}",
		"count({6 T})":                           "64",
		"count({6 F})":                           "0",
		"rect(0, 0, 7, 7)":                       "{6 T}",
		"rect(_5, _1000000000, 700, 1000000000)": "{6 T}",
		"rect(0, 0, 3, 7)":                       "{6 0?0:1}",
		"rect(0, 0, 7, 3)":                       "{6 1?0:1}",
		"rect(_9, 0, 3, 70)":                     "{6 0?0:1}",
		"rect(1, 0, 0, 7)":                       "{6 F}",
		"rect(0, 7, 7, 6)":                       "{6 F}",
		"rect(8, 0, 9, 7)":                       "{6 F}",
		"rect(_4, 0, _1, 7)":                     "{6 F}",
		"rect(0, 8, 7, 1000000000)":              "{6 F}",
		"rect(0, _2, 7, _1)":                     "{6 F}",
		"turn({6 0?0:1})":                        "{6 1?0:1}",
		"turn({6 1?0:1})":                        "{6 0?1:0}",
		"shift(4, 0, {6 0?0:1})":                 "{6 0?1:0}",
		"shift(0, 4, {6 0?0:1})":                 "{6 0?0:1}",
		"shift(_12, 1000000000, {6 0?0:1})":      "{6 0?1:0}",
		"has({6 0?0:1}, 3, 7)":                   "true",
		"has({6 0?0:1}, 4, 7)":                   "false",
		"has({6 0?0:1}, _5, 0)":                  "true",
		"has({6 0?0:1}, _4, 0)":                  "false",
		"has({6 0?0:1}, 8, _1000000000)":         "true",
		"has({6 1?0:1}, 100, 12)":                "false",
	} {
		e := parse(t, s)
		if got, bad := design.Step(e); !same(got, parse(t, want)) || bad != api.OK {
			t.Errorf("Step(%s): %s, %v, want %s", s, printOf(got), bad, want)
		}
	}
}

func TestP9_3_Values(t *testing.T) {
	for _, s := range []string{"1", "_7", "true", "false", "{6 T}", "fn x -> x", "fn x -> y", "fn x -> 1 + true", "(1, (true, fn x -> 1 2))", "((fn x -> z, 1), {6 F})"} {
		e := parse(t, s)
		if got, bad := design.Step(e); !same(got, e) || bad != api.OK {
			t.Errorf("Step(%s): %s, %v", s, brief(got), bad)
		}
		for _, fuel := range []int{0, 1, 10000} {
			if got, n, bad := design.Run(e, fuel); !same(got, e) || n != 0 || bad != api.OK {
				t.Errorf("Run(%s, %d): %s, %d, %v", s, fuel, brief(got), n, bad)
			}
		}
	}
	for s, want := range map[string]api.Errno{
		"x":                              api.ErrNone,
		"(1, x)":                         api.ErrNone,
		"(fn x -> y) 1":                  api.ErrNone,
		"1 x":                            api.ErrNone,
		"1 2 x":                          api.ErrNone,
		"1000000000 + 1 + x":             api.ErrNone,
		"if true then 1 else x":          api.ErrNone,
		"1 2":                            api.ErrFault,
		"true 2":                         api.ErrFault,
		"{6 T} 2":                        api.ErrFault,
		"(fn x -> x, 1) 2":               api.ErrFault,
		"if 1 then 2 else 3":             api.ErrFault,
		"if {6 T} then 2 else 3":         api.ErrFault,
		"if (true, true) then 2 else 3":  api.ErrFault,
		"if fn x -> x then 2 else 3":     api.ErrFault,
		"1 + true":                       api.ErrFault,
		"true + 1":                       api.ErrFault,
		"1 - {6 T}":                      api.ErrFault,
		"1 * (fn x -> x)":                api.ErrFault,
		"true = true":                    api.ErrFault,
		"1 = false":                      api.ErrFault,
		"{6 T} < {6 T}":                  api.ErrFault,
		"1 < {6 T}":                      api.ErrFault,
		"1 | {6 T}":                      api.ErrFault,
		"{6 T} | 1":                      api.ErrFault,
		"true & {6 T}":                   api.ErrFault,
		"{6 T} & true":                   api.ErrFault,
		"not(1)":                         api.ErrFault,
		"not({6 T})":                     api.ErrFault,
		"comp(true)":                     api.ErrFault,
		"turn(1)":                        api.ErrFault,
		"count(1)":                       api.ErrFault,
		"count((1, 2))":                  api.ErrFault,
		"fst(1)":                         api.ErrFault,
		"snd(fn x -> x)":                 api.ErrFault,
		"shift(true, 1, {6 T})":          api.ErrFault,
		"shift(1, true, {6 T})":          api.ErrFault,
		"shift(1, 1, 1)":                 api.ErrFault,
		"has(1, 1, 1)":                   api.ErrFault,
		"has({6 T}, true, 1)":            api.ErrFault,
		"has({6 T}, 1, {6 T})":           api.ErrFault,
		"rect(true, 1, 1, 1)":            api.ErrFault,
		"rect(1, true, 1, 1)":            api.ErrFault,
		"rect(1, 1, true, 1)":            api.ErrFault,
		"rect(1, 1, 1, true)":            api.ErrFault,
		"1000000000 + 1":                 api.ErrRange,
		"_1000000000 + _1":               api.ErrRange,
		"_1000000000 - 1":                api.ErrRange,
		"1 - _1000000000":                api.ErrRange,
		"1000000000 * 1000000000":        api.ErrRange,
		"1000000000 * _1000000000":       api.ErrRange,
		"31623 * 31623":                  api.ErrRange,
		"(1000000000 + 1) (1 2)":         api.ErrRange,
		"(1 2, 1000000000 + 1)":          api.ErrFault,
		"let x = 1 2 in 1000000000 + 1":  api.ErrFault,
		"(fn x -> 1 2) (1000000000 + 1)": api.ErrRange,
	} {
		e := parse(t, s)
		if got, bad := design.Step(e); !isZero(got) || bad != want {
			t.Errorf("Step(%s): %s, %v, want %v", s, brief(got), bad, want)
		}
		if got, n, bad := design.Run(e, 1); !isZero(got) || n != 0 || bad != want {
			t.Errorf("Run(%s, 1): %s, %d, %v, want %v", s, brief(got), n, bad, want)
		}
		if got, n, bad := design.Run(e, 0); !isZero(got) || n != 0 || bad != api.ErrFuel {
			t.Errorf("Run(%s, 0): %s, %d, %v", s, brief(got), n, bad)
		}
	}
}

func TestP9_3_Sizes(t *testing.T) {
	x, one := name("x"), num(1)
	deep := chain(250, one, func(e design.Expr) design.Expr { return fn("y", e) }) // 251 deep
	pairs := func(k int) design.Expr { return chain(k, x, func(e design.Expr) design.Expr { return pair(e, one) }) }
	for what, e := range map[string]struct {
		e    design.Expr
		want api.Errno
	}{
		"4999 nodes":         {apply(fn("x", pair(x, x)), balanced(1250, one)), api.OK},
		"5001 nodes":         {apply(fn("x", pair(x, pair(x, one))), balanced(1250, one)), api.ErrSize},
		"5000 nodes":         {apply(fn("x", pair(x, fn("y", x))), balanced(1250, one)), api.OK},
		"2500^2 nodes":       {apply(fn("x", balanced(1250, x)), balanced(1248, one)), api.ErrSize},
		"500 deep":           {apply(fn("x", pairs(249)), deep), api.OK},
		"501 deep":           {apply(fn("x", pairs(250)), deep), api.ErrSize},
		"500 deep, a let":    {let("x", deep, pairs(249)), api.OK},
		"501 deep, a let":    {let("x", deep, pairs(250)), api.ErrSize},
		"501 deep, inside":   {not(let("x", deep, pairs(249))), api.ErrSize},
		"500 deep, inside":   {not(let("x", deep, pairs(248))), api.OK},
		"500 deep, unrolled": {rec("f", "x", x, chain(496, name("f"), func(e design.Expr) design.Expr { return fn("y", e) })), api.OK},
		"501 deep, unrolled": {rec("f", "x", x, chain(498, name("f"), func(e design.Expr) design.Expr { return fn("y", e) })), api.ErrSize},
	} {
		want, f := stepOf(e.e)
		if f != e.want {
			t.Fatalf("%s: %v, want %v", what, f, e.want)
		}
		if got, bad := design.Step(e.e); !same(got, want) || bad != f {
			t.Errorf("%s: %s, %v, want %v", what, brief(got), bad, f)
		}
	}
}

func not(e design.Expr) design.Expr { return op("not", e) }

// TestP9_3_Run compares Run with the definition, and with too little fuel.
func TestP9_3_Run(t *testing.T) {
	m := newMaker(932)
	met := map[api.Errno]int{}
	for _, e := range slices.Concat(m.designs(800, 4, nil), m.mixed(3000, 40)) {
		want, n, f := runOf(e, 300)
		met[f]++
		got, done, bad := design.Run(e, 300)
		if !same(got, want) || done != n || bad != f {
			t.Errorf("Run(%s, 300): %s, %d, %v, want %s, %d, %v", printOf(e), brief(got), done, bad, brief(want), n, f)
		}
		if f == api.OK && n > 0 {
			if got, done, bad := design.Run(e, n); !same(got, want) || done != n || bad != api.OK {
				t.Errorf("Run(%s, %d): %s, %d, %v", printOf(e), n, brief(got), done, bad)
			}
			if got, done, bad := design.Run(e, n-1); !isZero(got) || done != 0 || bad != api.ErrFuel {
				t.Errorf("Run(%s, %d): %s, %d, %v", printOf(e), n-1, brief(got), done, bad)
			}
		}
	}
	for _, e := range []api.Errno{api.OK, api.ErrFault, api.ErrRange} {
		if met[e] < 30 {
			t.Errorf("too few of them: %v", met)
		}
	}
}

func TestP9_3_Fuel(t *testing.T) {
	for _, x := range []struct {
		s    string
		fuel int
		want string
		n    int
		bad  api.Errno
	}{
		{"(1 + 2) * 3", 2, "9", 2, api.OK},
		{"(1 + 2) * 3", 1, "", 0, api.ErrFuel},
		{"(1 + 2) * 3", 0, "", 0, api.ErrFuel},
		{"(1 + 2) * true", 1, "", 0, api.ErrFuel},
		{"(1 + 2) * true", 2, "", 0, api.ErrFault},
		{"x", 0, "", 0, api.ErrFuel},
		{"x", 1, "", 0, api.ErrNone},
		{"let rec f x = f x in f 1", 10000, "", 0, api.ErrFuel},
		// Each round is a call, a recursive function, a comparison, a choice and a subtraction.
		{"let rec f n = if n < 1 then n else f (n - 1) in f 1998", 9995, "0", 9995, api.OK},
		{"let rec f n = if n < 1 then n else f (n - 1) in f 1998", 9994, "", 0, api.ErrFuel},
		{"let rec f n = if n < 1 then n else f (n - 1) in f 1999", 10000, "0", 10000, api.OK},
		{"let rec f n = if n < 1 then n else f (n - 1) in f 2000", 10000, "", 0, api.ErrFuel},
		{"let rec f n = 1 + f n in f 1", 10000, "", 0, api.ErrSize},
		{"let rec f n = f (n, n) in f 1", 10000, "", 0, api.ErrSize},
		{"let rec f n = f (n * 2) in f 1", 10000, "", 0, api.ErrRange},
		{"1", -1, "", 0, api.ErrArg},
		{"1", 10001, "", 0, api.ErrArg},
		{"1", -1 << 63, "", 0, api.ErrArg},
		{"1", 1<<63 - 1, "", 0, api.ErrArg},
		{"x", -1, "", 0, api.ErrArg},
	} {
		var want design.Expr
		if x.bad == api.OK {
			want = parse(t, x.want)
		}
		if got, n, bad := design.Run(parse(t, x.s), x.fuel); !same(got, want) || n != x.n || bad != x.bad {
			t.Errorf("Run(%s, %d): %s, %d, %v, want %s, %d, %v", x.s, x.fuel, brief(got), n, bad, x.want, x.n, x.bad)
		}
	}
}

func TestP9_4_Show(t *testing.T) {
	for s, want := range map[string]string{
		"1":                          "1",
		"_1000000000":                "_1000000000",
		"true":                       "true",
		"false":                      "false",
		"{6 0?1:0}":                  "{6 0?1:0}",
		"fn x -> x":                  "fn",
		"fn x -> y z":                "fn",
		"(1, (true, fn x -> x))":     "(1, (true, fn))",
		"((fn f -> f, _2), {6 F})":   "((fn, _2), {6 F})",
		"x":                          "",
		"(1, x)":                     "",
		"(1 + 1, 2)":                 "",
		"(fn x -> x, (fn x -> x) 1)": "",
		"1 + 1":                      "",
		"let x = 1 in x":             "",
		"let rec f x = x in f":       "",
		"if true then 1 else 2":      "",
		"not(true)":                  "",
		"(fn x -> x) 1":              "",
	} {
		f := api.OK
		if want == "" {
			f = api.ErrArg
		}
		if got, bad := design.Show(parse(t, s)); got != want || bad != f {
			t.Errorf("Show(%s): %q, %v, want %q", s, got, bad, want)
		}
	}
	m := newMaker(941)
	shown := 0
	for range 3000 {
		e := m.any(30, []string{"x"})
		if m.Intn(2) == 0 {
			e = m.value(4)
		}
		want, f := "", api.ErrArg
		if isValue(e) {
			want, f = showOf(e), api.OK
			shown++
		}
		if got, bad := design.Show(e); got != want || bad != f {
			t.Errorf("Show(%s): %q, %v, want %q", printOf(e), got, bad, want)
		}
	}
	if shown < 1500 {
		t.Errorf("only %d values", shown)
	}
	if got, bad := design.Show(balanced(2500, truth(true))); len(got) != 2500*4+2499*4 || strings.Count(got, "true") != 2500 || bad != api.OK {
		t.Errorf("Show of 4999 nodes: %.99s, %v", got, bad)
	}
}

// value returns a value.
func (m maker) value(deep int) design.Expr {
	if deep > 0 && m.Intn(3) > 0 {
		return pair(m.value(deep-1), m.value(deep-1))
	}
	if m.Intn(3) == 0 {
		return fn("x", m.any(5, []string{"x", "y"}))
	}
	return m.leaf(nil)
}
