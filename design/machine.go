package design

import (
	"strings"

	"canting/api"
)

// closure is a function of the machine.
type closure struct {
	body      []Instr
	scope     *scope
	recursive bool
}

func (*closure) show(b *strings.Builder) {
	b.WriteString(shownFunction)
}

// scope is an environment: its last value, and the environment before that.
type scope struct {
	last  value
	outer *scope
}

// add returns the environment with one more value.
func (s *scope) add(v value) *scope {
	return &scope{v, s}
}

// at returns the value that is n places from the end.
func (s *scope) at(n int) value {
	for range n {
		s = s.outer
	}
	return s.last
}

// frame is a stretch of code that has begun: what is left of it, and its environment.
type frame struct {
	code  []Instr
	scope *scope
}

// machine runs code. It panics where that cannot go on.
type machine struct {
	fuel   int
	stack  []value
	frames []frame
	masks  map[string]region // by their texts: reading one again and again takes long
}

const maxFuel = 1_000_000

// Exec runs code.
func Exec(c []Instr, fuel int) (string, api.Errno) {
	if !isBetween(fuel, 0, maxFuel) || !isCode(c) {
		return "", api.ErrArg
	}
	m := machine{fuel: fuel, masks: map[string]region{}}
	v, e := attempt(func() value { return m.run(c) })
	if e != api.OK {
		return "", e
	}
	if nodes(v, maxNodes) > maxNodes {
		return "", api.ErrSize
	}
	return shown(v), api.OK
}

// run returns the value that code leaves.
func (m *machine) run(c []Instr) value {
	m.enter(c, nil)
	for len(m.frames) > 0 {
		f := &m.frames[len(m.frames)-1]
		if len(f.code) == 0 {
			m.frames = m.frames[:len(m.frames)-1]
			continue
		}
		if m.fuel == 0 {
			panic(api.ErrFuel)
		}
		m.fuel--
		i := f.code[0]
		f.code = f.code[1:]
		m.do(i, f)
	}
	return m.pop()
}

// enter begins a stretch of code.
func (m *machine) enter(code []Instr, s *scope) {
	m.frames = append(m.frames, frame{code, s})
}

func (m *machine) push(v value) {
	m.stack = append(m.stack, v)
}

func (m *machine) pop() value {
	last := len(m.stack) - 1
	v := m.stack[last]
	m.stack = m.stack[:last]
	return v
}

// do carries out an instruction of a frame.
func (m *machine) do(i Instr, f *frame) {
	switch i.Op {
	case numberOp:
		m.push(number(i.N))
	case truthOp:
		m.push(truth(i.N == 1))
	case maskOp:
		m.push(m.mask(i.Name))
	case variableOp:
		m.push(f.scope.at(i.N))
	case functionOp, recursionOp:
		m.push(&closure{body: i.Body, scope: f.scope, recursive: i.Op == recursionOp})
	case applyOp:
		m.apply()
	case enterOp:
		f.scope = f.scope.add(m.pop())
	case leaveOp:
		f.scope = f.scope.outer
	case chooseOp:
		code := i.Other
		if asTruth(m.pop()) {
			code = i.Body
		}
		m.enter(code, f.scope)
	case operateOp:
		m.operate(i.Name)
	case pairOp:
		right := m.pop()
		left := m.pop()
		m.push(pair{left, right})
	}
}

func (m *machine) mask(text string) region {
	f, known := m.masks[text]
	if !known {
		f = regionOf(text)
		m.masks[text] = f
	}
	return f
}

func (m *machine) apply() {
	argument := m.pop()
	function, ok := m.pop().(*closure)
	if !ok {
		panic(api.ErrFault)
	}
	s := function.scope
	if function.recursive {
		s = s.add(function)
	}
	m.enter(function.body, s.add(argument))
}

func (m *machine) operate(name string) {
	first := len(m.stack) - operands(name)
	result := operate(name, m.stack[first:])
	m.stack = append(m.stack[:first], result)
}
