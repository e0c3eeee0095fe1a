package design_test

import (
	"slices"
	"strings"
	"testing"

	"canting/api"
	"canting/design"
)

func TestP9_5_Compile(t *testing.T) {
	m := newMaker(951)
	for _, e := range slices.Concat(m.designs(1500, 4, nil), m.mixed(5000, 60), large()) {
		if got, bad := design.Compile(e); !sameCode(got, codeOf(e)) || bad != api.OK {
			t.Errorf("Compile(%s): %s, %v, want %s", brief(printOf(e)), brief(got), bad, brief(codeOf(e)))
		}
	}
	for range 500 {
		e := m.any(30, []string{"x", "y"})
		if got, bad := design.Compile(e); len(freeOf(e)) > 0 && (len(got) != 0 || bad != api.ErrNone) {
			t.Errorf("Compile(%s): %s, %v", printOf(e), brief(got), bad)
		}
	}
}

func TestP9_5_CompileByHand(t *testing.T) {
	type code = []design.Instr
	for s, want := range map[string]code{
		"(1 + 2) * 3":                 {{N: 1}, {N: 2}, {Op: 10, Name: "+"}, {N: 3}, {Op: 10, Name: "*"}},
		"true":                        {{Op: 1, N: 1}},
		"false":                       {{Op: 1}},
		"{6 T}":                       {{Op: 2, Name: "6 T"}},
		"fn x -> x":                   {{Op: 4, Body: code{{Op: 3}}}},
		"fn x -> fn y -> x":           {{Op: 4, Body: code{{Op: 4, Body: code{{Op: 3, N: 1}}}}}},
		"fn x -> fn x -> x":           {{Op: 4, Body: code{{Op: 4, Body: code{{Op: 3}}}}}},
		"(fn x -> x) 1":               {{Op: 4, Body: code{{Op: 3}}}, {N: 1}, {Op: 6}},
		"let x = 1 in x":              {{N: 1}, {Op: 7}, {Op: 3}, {Op: 8}},
		"let x = 1 in let x = x in x": {{N: 1}, {Op: 7}, {Op: 3}, {Op: 7}, {Op: 3}, {Op: 8}, {Op: 8}},
		"let x = 1 in let y = x in x": {{N: 1}, {Op: 7}, {Op: 3}, {Op: 7}, {Op: 3, N: 1}, {Op: 8}, {Op: 8}},
		"let rec f x = f x in f 1":    {{Op: 5, Body: code{{Op: 3, N: 1}, {Op: 3}, {Op: 6}}}, {Op: 7}, {Op: 3}, {N: 1}, {Op: 6}, {Op: 8}},
		"if true then 1 else 2":       {{Op: 1, N: 1}, {Op: 9, Body: code{{N: 1}}, Other: code{{N: 2}}}},
		"(1, _2)":                     {{N: 1}, {N: -2}, {Op: 11}},
		"rect(1, 2, 3, 4)":            {{N: 1}, {N: 2}, {N: 3}, {N: 4}, {Op: 10, Name: "rect"}},
		"fn x -> let y = x in if x then y else x": {{Op: 4, Body: code{{Op: 3}, {Op: 7}, {Op: 3, N: 1}, {Op: 9, Body: code{{Op: 3}}, Other: code{{Op: 3, N: 1}}}, {Op: 8}}}},
	} {
		if got, bad := design.Compile(parse(t, s)); !sameCode(got, want) || bad != api.OK {
			t.Errorf("Compile(%s): %v, %v, want %v", s, got, bad, want)
		}
	}
}

// TestP9_5_Exec compares Exec with code that is run stretch by stretch, with all the fuel that it needs and with one less.
func TestP9_5_Exec(t *testing.T) {
	m := newMaker(952)
	met := map[api.Errno]int{}
	for _, e := range slices.Concat(m.designs(1500, 4, nil), m.mixed(5000, 40), large()) {
		code := codeOf(e)
		want, used, f := execOf(code, 3000)
		met[f]++
		if got, bad := design.Exec(code, 3000); got != want || bad != f {
			t.Errorf("Exec of %s: %s, %v, want %s, %v", brief(printOf(e)), brief(got), bad, brief(want), f)
		}
		if f == api.ErrFuel {
			continue
		}
		if got, bad := design.Exec(code, used); got != want || bad != f {
			t.Errorf("Exec of %s with %d: %s, %v, want %s, %v", brief(printOf(e)), used, brief(got), bad, brief(want), f)
		}
		if got, bad := design.Exec(code, used-1); got != "" || bad != api.ErrFuel {
			t.Errorf("Exec of %s with %d: %s, %v", brief(printOf(e)), used-1, brief(got), bad)
		}
	}
	for _, e := range []api.Errno{api.OK, api.ErrFault, api.ErrRange} {
		if met[e] < 30 {
			t.Errorf("too few of them: %v", met)
		}
	}
}

func TestP9_5_ExecByHand(t *testing.T) {
	const count = "let rec f n = if n < 1 then n else f (n - 1) in f "
	const grow = "let rec f n = if n < 1 then 1 else (fn x -> (x, x)) (f (n - 1)) in "
	for _, x := range []struct {
		s    string
		fuel int
		want string
		bad  api.Errno
	}{
		{"1", 1, "1", api.OK},
		{"1", 0, "", api.ErrFuel},
		{"fn x -> 1 2", 1, "fn", api.OK},
		{"let rec f x = f x in f", 4, "fn", api.OK},
		{"let rec f x = f x in f", 3, "", api.ErrFuel},
		{"(1, (true, (fn x -> x, {6 T})))", 7, "(1, (true, (fn, {6 T})))", api.OK},
		{"(fn x -> fn y -> x - y) 5 3", 100, "2", api.OK},
		{"let x = 1 in (let y = 2 in fn z -> x + y * z) 10", 100, "21", api.OK},
		{"(let x = 1 in x) + (let y = 2 in y)", 100, "3", api.OK},
		{"let x = 5 in (let x = 6 in x) + x", 100, "11", api.OK},
		{"let x = 5 in (fn f -> let x = 7 in f 1) (fn y -> x)", 100, "5", api.OK},
		{"(if true then 1 else 2, if false then 1 else 2)", 100, "(1, 2)", api.OK},
		{"if true then 1 else 1 2", 3, "1", api.OK},
		{"if true then 1 else 1 2", 2, "", api.ErrFuel},
		{"1 2", 3, "", api.ErrFault},
		{"1 2", 2, "", api.ErrFuel},
		{"if 1 then 2 else 3", 2, "", api.ErrFault},
		{"if fn x -> x then 2 else 3", 2, "", api.ErrFault},
		{"1 + true", 3, "", api.ErrFault},
		{"not(1)", 2, "", api.ErrFault},
		{"fst(1)", 2, "", api.ErrFault},
		{"snd(fn x -> x)", 2, "", api.ErrFault},
		{"count(fn x -> x)", 2, "", api.ErrFault},
		{"1000000000 + 1", 3, "", api.ErrRange},
		{"1000000000 + 1", 2, "", api.ErrFuel},
		{"31623 * 31623", 3, "", api.ErrRange},
		{"(1000000000 + 1) (1 2)", 100, "", api.ErrRange},
		{"(1 2) (1000000000 + 1)", 100, "", api.ErrFault},
		{"(1 2, let rec f x = f x in f 1)", 100, "", api.ErrFault},
		{"(let rec f x = f x in f 1, 1 2)", 1000000, "", api.ErrFuel},
		// Each round is 9 instructions, the last one 5; 6 are around them.
		{count + "100", 911, "0", api.OK},
		{count + "100", 910, "", api.ErrFuel},
		{count + "111109", 1000000, "0", api.OK},
		{count + "111110", 1000000, "", api.ErrFuel},
		{"let rec f n = f n in f 1", 1000000, "", api.ErrFuel},
		{"let rec f n = 1 + f n in f 1", 1000000, "", api.ErrFuel},
		{"let rec f n = (f n, 1) in f 1", 1000000, "", api.ErrFuel},
		{"let rec f n = f (n, n) in f 1", 1000000, "", api.ErrFuel},
		{"let rec f n = f (fn x -> n) in f 1", 1000000, "", api.ErrFuel},
		{grow + "count((fn x -> {6 T}) (f 1000))", 100000, "64", api.OK},
		{grow + "f 1000", 100000, "", api.ErrSize},
		{grow + "f 12", 100000, "", api.ErrSize},
		{grow + "f 2", 100000, "((1, 1), (1, 1))", api.OK},
		{grow + "let rec g p = fst(p) in (g (f 12), 1)", 100000, "", api.OK},
	} {
		got, bad := design.Exec(must(design.Compile(parse(t, x.s))), x.fuel)
		if bad != x.bad || x.want != "" && got != x.want || (got == "") != (bad != api.OK) {
			t.Errorf("Exec of %s with %d: %.99s, %v, want %s, %v", x.s, x.fuel, got, bad, x.want, x.bad)
		}
	}
}

// TestP9_5_Sizes checks how large a value may be that is left.
func TestP9_5_Sizes(t *testing.T) {
	const left = "let rec f n = if n < 1 then fn x -> x else (f (n - 1), true) in f "
	const right = "let rec f n = if n < 1 then fn x -> x else (true, f (n - 1)) in f "
	const both = "let rec f n = if n < 1 then 1 else let p = f (n - 1) in (p, p) in "
	for s, want := range map[string]api.Errno{
		left + "2499":                                    api.OK, // 4999 nodes
		left + "2500":                                    api.ErrSize,
		left + "20000":                                   api.ErrSize,
		right + "2499":                                   api.OK,
		right + "2500":                                   api.ErrSize,
		right + "20000":                                  api.ErrSize,
		both + "f 11":                                    api.OK, // 4095 nodes
		both + "(f 10, (f 10, f 8))":                     api.OK, // 4607
		both + "(f 10, (f 10, (f 8, f 6)))":              api.OK, // 4735
		both + "(f 10, (f 10, (f 8, f 8)))":              api.ErrSize,
		both + "(f 11, (f 8, (f 7, f 5)))":               api.OK, // 4095 + 511 + 255 + 63 + 3 = 4927
		both + "(f 11, (f 8, (f 7, (f 5, f 5))))":        api.OK, // 4991
		both + "(f 11, (f 8, (f 7, (f 5, (f 5, f 2)))))": api.OK, // 4999
		both + "(f 11, (f 8, (f 7, (f 5, (f 5, f 3)))))": api.ErrSize,
		both + "((((f 2, f 5), f 5), (f 7, f 8)), f 11)": api.OK,
		both + "((((f 3, f 5), f 5), (f 7, f 8)), f 11)": api.ErrSize,
		both + "f 60":                                    api.ErrSize,
	} {
		got, bad := design.Exec(must(design.Compile(parse(t, s))), 1_000_000)
		if bad != want || (got == "") != (bad != api.OK) {
			t.Errorf("%s: %.99s, %v, want %v", s, got, bad, want)
		}
		n := strings.Count(got, ",")*2 + 1
		if bad == api.OK && (n < 4000 || n > 5000) {
			t.Errorf("%s: shows %d nodes", s, n)
		}
	}
}

// decoded reads code from its end: it returns where the code of the expression that ends at end begins, and the measures of that; -1 if there is none.
func decoded(code []design.Instr, end, around int) (begin, size, deep int) {
	if end == 0 {
		return -1, 0, 0
	}
	i := code[end-1]
	operands, bodies, inner := 0, [][]design.Instr{}, around
	switch i.Op {
	case 3:
		if i.N < 0 || i.N >= around {
			return -1, 0, 0
		}
	case 4:
		bodies, inner = [][]design.Instr{i.Body}, around+1
	case 5, 7:
		return -1, 0, 0
	case 6, 11:
		operands = 2
	case 8:
		return decodedLet(code, end, around)
	case 9:
		operands, bodies = 1, [][]design.Instr{i.Body, i.Other}
	case 10:
		operands = len(operators[i.Name]) - 1
	}
	begin, size, deep = end-1, 1, 0
	for _, body := range bodies {
		at, n, d := decoded(body, len(body), inner)
		if at != 0 {
			return -1, 0, 0
		}
		size, deep = size+n, max(deep, d)
	}
	for range operands {
		at, n, d := decoded(code, begin, around)
		if at < 0 {
			return -1, 0, 0
		}
		begin, size, deep = at, size+n, max(deep, d)
	}
	return begin, size, deep + 1
}

func decodedLet(code []design.Instr, end, around int) (begin, size, deep int) {
	at, size, deep := decoded(code, end-1, around+1)
	if at < 1 || code[at-1].Op != 7 {
		return -1, 0, 0
	}
	var n, d int
	if at > 1 && code[at-2].Op == 5 {
		body := code[at-2].Body
		begin, n, d = decoded(body, len(body), around+2)
		if begin != 0 {
			return -1, 0, 0
		}
		begin = at - 2
	} else {
		begin, n, d = decoded(code, at-1, around)
	}
	return begin, size + n + 1, max(deep, d) + 1
}

// fits reports whether all instructions have only what their operations ask for.
func fits(code []design.Instr) bool {
	return !slices.ContainsFunc(code, func(i design.Instr) bool {
		_, isOperator := operators[i.Name]
		bodies, n := []int{0, 0, 0, 0, 1, 1, 0, 0, 0, 2, 0, 0}, i.N
		switch {
		case i.Op < 0 || i.Op > 11, i.Op > 3 && n != 0, i.Op == 0 && (n < -1_000_000_000 || n > 1_000_000_000), i.Op == 1 && n != 0 && n != 1, i.Op == 2 && n != 0:
			return true
		case i.Op == 10 && !isOperator, i.Op != 10 && i.Op != 2 && i.Name != "", len(i.Body) > 0 && bodies[i.Op] < 1, len(i.Other) > 0 && bodies[i.Op] < 2:
			return true
		}
		_, bad := design.Print(cloth(i.Name))
		return i.Op == 2 && bad != api.OK || !fits(i.Body) || !fits(i.Other)
	})
}

// isCode follows the rules of the code from its end.
func isCode(code []design.Instr) bool {
	if !fits(code) {
		return false
	}
	begin, size, deep := decoded(code, len(code), 0)
	return begin == 0 && size <= 5000 && deep <= 500
}

// accepted reports whether Exec takes code, and checks that it has no result otherwise.
func accepted(t *testing.T, code []design.Instr) bool {
	t.Helper()
	s, bad := design.Exec(code, 50)
	if s != "" && bad != api.OK {
		t.Errorf("Exec(%s): %s, %v", brief(code), brief(s), bad)
	}
	for _, fuel := range []int{-1, 1_000_001, -1 << 63, 1<<63 - 1} {
		if s, bad := design.Exec(code, fuel); s != "" || bad != api.ErrArg {
			t.Errorf("Exec(%s, %d): %s, %v", brief(code), fuel, brief(s), bad)
		}
	}
	return bad != api.ErrArg
}

// TestP9_5_ShortCode tries all code of at most four instructions of some, with bodies of one of these.
func TestP9_5_ShortCode(t *testing.T) {
	some := []design.Instr{{N: 1}, {Op: 3}, {Op: 6}, {Op: 7}, {Op: 8}, {Op: 10, Name: "not"}, {Op: 11}}
	for _, body := range [][]design.Instr{nil, {{N: 1}}, {{Op: 3}}, {{Op: 3, N: 1}}, {{Op: 8}}} {
		some = append(some, design.Instr{Op: 4, Body: body}, design.Instr{Op: 5, Body: body}, design.Instr{Op: 9, Body: body, Other: []design.Instr{{N: 1}}})
	}
	met := map[bool]int{}
	var try func(code []design.Instr)
	try = func(code []design.Instr) {
		want := isCode(code)
		met[want]++
		if accepted(t, code) != want {
			t.Errorf("Exec(%v): code %v, want %v", code, !want, want)
		}
		for _, i := range some {
			if len(code) < 4 {
				try(append(slices.Clip(code), i))
			}
		}
	}
	try(nil)
	if met[true] < 100 || met[false] < 100000 {
		t.Errorf("too few of both: %v", met)
	}
}

// changed returns code with a fault by chance, if it is one.
func (m maker) changed(code []design.Instr) []design.Instr {
	code = slices.Clone(code)
	if len(code) == 0 {
		return []design.Instr{{Op: m.Intn(12)}}
	}
	k := m.Intn(len(code))
	i := &code[k]
	switch m.Intn(12) {
	case 0:
		i.Op = m.Intn(14) - 1
	case 1:
		i.N += m.Intn(5) - 2
	case 2:
		i.Name = m.of("", "+", "not", "x", "6 T", "5 T", "rect", "fst")
	case 3:
		i.Body = m.changed(i.Body)
	case 4:
		i.Other = m.changed(i.Other)
	case 5:
		return slices.Delete(code, k, k+1)
	case 6:
		return slices.Insert(code, k, code[m.Intn(len(code))])
	case 7:
		j := m.Intn(len(code))
		code[k], code[j] = code[j], code[k]
	case 8:
		return append(code, design.Instr{Op: m.Intn(12)})
	case 9:
		i.Body, i.Other = i.Other, i.Body
	default:
		if len(i.Body) > 0 {
			i.Body = m.changed(i.Body)
		}
	}
	return code
}

func TestP9_5_ChangedCode(t *testing.T) {
	m := newMaker(953)
	met := map[bool]int{}
	for range 20000 {
		e := m.any(2+m.Intn(25), nil)
		code := codeOf(e)
		for range m.Intn(3) {
			code = m.changed(code)
		}
		want := isCode(code)
		met[want]++
		if accepted(t, code) != want {
			t.Errorf("Exec(%v): code %v, want %v", code, !want, want)
		}
		if !want {
			continue
		}
		shown, _, f := execOf(code, 500)
		if got, bad := design.Exec(code, 500); got != shown || bad != f {
			t.Errorf("Exec(%v): %s, %v, want %s, %v", code, brief(got), bad, brief(shown), f)
		}
	}
	if met[true] < 5000 || met[false] < 5000 {
		t.Errorf("too few of both: %v", met)
	}
}

// TestP9_5_NoCode checks the limits of code, and code that contains itself.
func TestP9_5_NoCode(t *testing.T) {
	endless := make([]design.Instr, 1)
	endless[0] = design.Instr{Op: 4, Body: endless}
	forked := make([]design.Instr, 2)
	forked[0] = design.Instr{Op: 4, Body: forked}
	forked[1] = design.Instr{Op: 9, Body: forked, Other: forked}
	twice := []design.Instr{{N: 1}}
	for range 60 {
		twice = []design.Instr{{Op: 1}, {Op: 9, Body: twice, Other: twice}}
	}
	bad := map[string][]design.Instr{
		"nothing":                  nil,
		"a body that has itself":   endless,
		"choices of themselves":    forked,
		"2^60 nodes":               twice,
		"a million numbers":        make([]design.Instr, 1_000_000),
		"a million lets":           slices.Repeat([]design.Instr{{N: 1}, {Op: 7}}, 500_000),
		"a million that end":       slices.Repeat([]design.Instr{{Op: 8}}, 1_000_000),
		"an operator of no name":   {{N: 1}, {Op: 10}},
		"an unknown operator":      {{N: 1}, {N: 1}, {Op: 10, Name: "/"}},
		"a recursion without rest": {{Op: 5, Body: []design.Instr{{N: 1}}}},
		"a recursion, applied":     {{Op: 5, Body: []design.Instr{{N: 1}}}, {N: 1}, {Op: 6}},
		"a recursion, then a let":  {{Op: 5, Body: []design.Instr{{N: 1}}}, {N: 1}, {Op: 7}, {N: 1}, {Op: 8}},
		"a let that does not end":  {{N: 1}, {Op: 7}, {N: 1}},
		"a let that ends twice":    {{N: 1}, {Op: 7}, {N: 1}, {Op: 8}, {Op: 8}},
		"a rest of two":            {{N: 1}, {Op: 7}, {N: 1}, {N: 1}, {Op: 8}},
		"a pair through a let":     {{N: 1}, {N: 1}, {Op: 7}, {Op: 11}, {Op: 8}},
		"a name in its own value":  {{Op: 3}, {Op: 7}, {Op: 3}, {Op: 8}},
		"a name behind its rest":   {{N: 1}, {Op: 7}, {N: 1}, {Op: 8}, {Op: 3}, {Op: 11}},
	}
	for what, e := range tooLarge() {
		if what == "5001 nodes" || strings.HasPrefix(what, "501 deep") {
			bad[what] = codeOf(e)
		}
	}
	for _, what := range sorted(bad) {
		if accepted(t, bad[what]) {
			t.Errorf("%s is taken for code", what)
		}
	}
	for _, e := range large() {
		if !accepted(t, codeOf(e)) {
			t.Errorf("the code of %.99s is not taken", printOf(e))
		}
	}
	for k, i := range []design.Instr{{N: 1_000_000_001}, {N: -1_000_000_001}, {Op: 1, N: 2}, {Op: 1, N: -1}, {Op: 2}, {Op: 2, Name: "5 T"}, {Op: 3}, {Op: 3, N: -1}, {Op: -1}, {Op: 12}, {N: 1, Name: "x"}, {N: 1, Body: []design.Instr{{N: 1}}}, {N: 1, Other: []design.Instr{{N: 1}}}} {
		if accepted(t, []design.Instr{i}) {
			t.Errorf("instruction %d is taken: %v", k, i)
		}
	}
}
