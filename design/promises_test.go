package design_test

import (
	"slices"
	"testing"

	"canting/api"
	"canting/design"
)

// TestP9_Examples checks the examples of the chapter.
func TestP9_Examples(t *testing.T) {
	for s, want := range map[string]string{
		"fn x -> x":                          "(a -> a)",
		"fn f -> fn x -> f (f x)":            "((a -> a) -> (a -> a))",
		"let i = fn x -> x in (i 1, i true)": "(int * bool)",
		diagonal + "f 7":                     "mask",
	} {
		if got, bad := design.Infer(parse(t, s)); got != want || bad != api.OK {
			t.Errorf("Infer(%s): %s, %v, want %s", s, got, bad, want)
		}
	}
	for _, s := range []string{"(fn i -> (i 1, i true)) (fn x -> x)", "fn x -> x x"} {
		if got, bad := design.Infer(parse(t, s)); got != "" || bad != api.ErrType {
			t.Errorf("Infer(%s): %s, %v", s, got, bad)
		}
	}
	want := "{" + drawnBy(func(x, y int) bool { return x == y }).text() + "}"
	for s, want := range map[string]string{diagonal + "f 7": want, "count(" + diagonal + "f 7)": "8", "(1 + 2) * 3": "9"} {
		v, n, bad := design.Run(parse(t, s), 2000)
		if got := must(design.Show(v)); got != want || bad != api.OK || s == "(1 + 2) * 3" && n != 2 {
			t.Errorf("Run(%s): %s, %d, %v", s, got, n, bad)
		}
		if got, bad := design.Exec(must(design.Compile(parse(t, s))), 2000); got != want || bad != api.OK {
			t.Errorf("Exec of %s: %s, %v", s, got, bad)
		}
	}
	if e, bad := design.Step(parse(t, "(1 + 2) * 3")); !same(e, parse(t, "3 * 3")) || bad != api.OK {
		t.Errorf("Step: %v, %v", e, bad)
	}
}

const diagonal = "let rec f n = if n < 1 then rect(0, 0, 0, 0) else f (n - 1) | shift(n, n, f 0) in "

func TestP9_6_ThereAndBack(t *testing.T) {
	m := newMaker(961)
	l := slices.Concat(m.designs(800, 4, nil), m.mixed(3000, 100), m.mixed(500, 600), large(), examples())
	for range 2000 {
		l = append(l, m.any(60, []string{"a", "b", "zz99"}))
	}
	met := map[api.Errno]int{}
	for _, e := range l {
		s := must(design.Print(e))
		want, f := e, api.OK
		if len(s) > 4000 || nodes(e) > 300 || depth(e) > 60 {
			want, f = design.Expr{}, api.ErrSize
		}
		met[f]++
		if got, bad := design.Parse(s); !same(got, want) || bad != f {
			t.Errorf("Parse(%s): %s, %v, want %v", brief(s), brief(got), bad, f)
		}
	}
	if met[api.OK] < 4000 || met[api.ErrSize] < 10 {
		t.Errorf("too few of both: %v", met)
	}
}

// steps are the expressions that e becomes, as long as they have a type.
func steps(t *testing.T, e design.Expr, most int) []design.Expr {
	l := []design.Expr{e}
	for range most {
		next, bad := design.Step(e)
		if bad == api.ErrFault || bad == api.ErrNone {
			t.Errorf("Step(%s): %v", printOf(e), bad)
		}
		if bad != api.OK || isValue(e) {
			break
		}
		l = append(l, next)
		e = next
	}
	return l
}

func TestP9_7_Preservation(t *testing.T) {
	m := newMaker(971)
	pairs, narrower := 0, 0
	for _, e := range m.typedOnes(1500) {
		var old string
		for k, e := range steps(t, e, 25) {
			u, bad := design.Infer(e)
			if bad == api.ErrSize {
				break
			}
			if bad != api.OK {
				t.Errorf("Infer(%s) after %d steps: %v", printOf(e), k, bad)
				break
			}
			if k > 0 {
				pairs++
				ok, bad := design.Instance(u, old)
				if !ok || bad != api.OK {
					t.Errorf("%s after %d steps has the type %s, before %s: %v, %v", printOf(e), k, u, old, ok, bad)
				}
				if u != old {
					narrower++
				}
			}
			old = u
		}
	}
	if pairs < 5000 || narrower < 10 {
		t.Errorf("only %d steps, %d of them to another type", pairs, narrower)
	}
}

// typedOnes returns expressions that have a type, of different makes.
func (m maker) typedOnes(count int) []design.Expr {
	l := m.designs(count, 4, nil)
	for len(l) < 3*count {
		e := m.pure(2+m.Intn(20), nil)
		if len(l)%2 == 0 {
			e = m.any(5+m.Intn(30), nil)
		}
		if _, bad := design.Infer(e); bad == api.OK && !isValue(e) {
			l = append(l, e)
		}
	}
	return l
}

func TestP9_8_Progress(t *testing.T) {
	m := newMaker(981)
	met := map[api.Errno]int{}
	for _, e := range m.typedOnes(1500) {
		_, _, bad := design.Run(e, 200)
		met[bad]++
		if bad != api.OK && bad != api.ErrFuel && bad != api.ErrRange && bad != api.ErrSize {
			t.Errorf("Run(%s): %v", printOf(e), bad)
		}
		steps(t, e, 20)
	}
	if met[api.OK] < 2000 || met[api.ErrRange] < 5 || met[api.ErrFuel] < 5 {
		t.Errorf("too few of them: %v", met)
	}
}

func TestP9_9_Principal(t *testing.T) {
	m := newMaker(991)
	typed := 0
	for _, e := range slices.Concat(m.typedOnes(300), m.mixed(3000, 20)) {
		for range 4 {
			c := m.any(8, []string{"x", "x"})
			if _, bad := design.Infer(apply(fn("x", c), e)); bad != api.OK {
				continue
			}
			typed++
			if _, bad := design.Infer(e); bad != api.OK && bad != api.ErrSize {
				t.Errorf("Infer(%s): %v, but in place of x in %s it has a type", printOf(e), bad, printOf(c))
			}
		}
	}
	parts := 0
	for _, e := range m.typedOnes(800) {
		for _, part := range partsOf(e) {
			if len(freeOf(part)) > 0 || part.Kind != kindFunction && part.Kind != kindPair && part.Kind != kindChoice {
				continue
			}
			parts++
			if _, bad := design.Infer(part); bad != api.OK && bad != api.ErrSize {
				t.Errorf("Infer(%s): %v, a part of %s", printOf(part), bad, printOf(e))
			}
		}
	}
	if typed < 1000 || parts < 1000 {
		t.Errorf("only %d applications, %d parts", typed, parts)
	}
}

// partsOf returns e and all expressions in it.
func partsOf(e design.Expr) []design.Expr {
	l := []design.Expr{e}
	for _, kid := range e.Kids {
		l = append(l, partsOf(kid)...)
	}
	return l
}

func TestP9_10_Compiled(t *testing.T) {
	m := newMaker(1001)
	ran, executed := 0, 0
	for _, e := range slices.Concat(m.typedOnes(1000), m.mixed(5000, 40), large()) {
		code := must(design.Compile(e))
		v, n, bad := design.Run(e, 400)
		fuel := 10 * (n + 1) * (nodes(e) + 1)
		if bad == api.OK && fuel <= 1_000_000 {
			ran++
			want := must(design.Show(v))
			if got, bad := design.Exec(code, fuel); got != want || bad != api.OK {
				t.Errorf("Exec of %s: %s, %v, want %s", brief(printOf(e)), brief(got), bad, brief(want))
			}
		}
		if _, f := design.Exec(code, 4000); f == api.OK {
			executed++
			if bad == api.ErrFault {
				t.Errorf("Run(%s) is a fault, but its code runs", brief(printOf(e)))
			}
		}
	}
	if ran < 3000 || executed < 3000 {
		t.Errorf("only %d and %d", ran, executed)
	}
}

// drawing returns a design of a mask with operators only.
func (m maker) drawing(deep int) design.Expr {
	n := func() design.Expr {
		if m.Intn(3) == 0 {
			return op(m.of("+", "-"), num(m.Intn(30)-15), num(m.Intn(30)-15))
		}
		return num(m.Intn(30) - 15)
	}
	if deep == 0 {
		if m.Intn(2) == 0 {
			return cloth(randomText(m.Rand))
		}
		return op("rect", n(), n(), n(), n())
	}
	switch operator := m.of("|", "&", "comp", "turn", "shift"); operator {
	case "|", "&":
		return op(operator, m.drawing(deep-1), m.drawing(deep-1))
	case "shift":
		return op(operator, n(), n(), m.drawing(deep-1))
	default:
		return op(operator, m.drawing(deep-1))
	}
}

// drawn returns whether a drawing has a cell, by the definitions of its operators.
func drawn(e design.Expr, x, y int) bool {
	number := func(e design.Expr) int {
		switch e.Name {
		case "+":
			return e.Kids[0].N + e.Kids[1].N
		case "-":
			return e.Kids[0].N - e.Kids[1].N
		}
		return e.N
	}
	switch e.Name {
	case "|":
		return drawn(e.Kids[0], x, y) || drawn(e.Kids[1], x, y)
	case "&":
		return drawn(e.Kids[0], x, y) && drawn(e.Kids[1], x, y)
	case "comp":
		return !drawn(e.Kids[0], x, y)
	case "turn":
		return drawn(e.Kids[0], y, 7-x)
	case "shift":
		return drawn(e.Kids[2], modulo(x-number(e.Kids[0]), 8), modulo(y-number(e.Kids[1]), 8))
	case "rect":
		return number(e.Kids[0]) <= x && x <= number(e.Kids[2]) && number(e.Kids[1]) <= y && y <= number(e.Kids[3])
	}
	return pictureOf(e.Name)[x][y]
}

func TestP9_11_Masks(t *testing.T) {
	m := newMaker(1101)
	for range 400 {
		e := m.drawing(m.Intn(5))
		p := drawnBy(func(x, y int) bool { return drawn(e, x, y) })
		if u, bad := design.Infer(e); u != "mask" || bad != api.OK {
			t.Errorf("Infer(%s): %s, %v", printOf(e), u, bad)
		}
		if got, _, bad := design.Run(e, 10000); !same(got, cloth(p.text())) || bad != api.OK {
			t.Errorf("Run(%s): %s, %v, want %s", printOf(e), printOf(got), bad, p.text())
		}
		if got, bad := design.Exec(must(design.Compile(e)), 10000); got != "{"+p.text()+"}" || bad != api.OK {
			t.Errorf("Exec of %s: %s, %v, want %s", printOf(e), got, bad, p.text())
		}
		for range 5 {
			x, y := m.Intn(40)-20, m.Intn(40)-20
			want := truth(p[modulo(x, 8)][modulo(y, 8)])
			if got, _, bad := design.Run(op("has", e, num(x), num(y)), 10000); !same(got, want) || bad != api.OK {
				t.Errorf("has(%s, %d, %d): %v, %v", printOf(e), x, y, got, bad)
			}
		}
		if got, _, bad := design.Run(op("count", e), 10000); !same(got, num(p.count())) || bad != api.OK {
			t.Errorf("count(%s): %v, %v, want %d", printOf(e), got, bad, p.count())
		}
	}
}
