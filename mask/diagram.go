package mask

// graph is the nodes of functions of the same variables.
type graph struct {
	vars  int
	nodes []Node
}

func graphOf(f Mask) graph {
	return graph{f.Vars, f.Nodes}
}

// level returns the variable that is asked at a place: at a value, the one behind the last.
func (g graph) level(place int) int {
	if place < firstNode {
		return g.vars
	}
	return g.nodes[place-firstNode].Var
}

// parts returns the places that follow when variable v is 0 and 1, at a place that asks no variable before v.
func (g graph) parts(place, v int) (low, high int) {
	if g.level(place) != v {
		return place, place
	}
	node := g.nodes[place-firstNode]
	return node.Low, node.High
}

// choice names the function that is one function where a test is true, else another one.
type choice struct{ test, yes, no int }

// diagram keeps many functions in one graph. It has each node once, so that equal functions have equal places.
type diagram struct {
	graph
	places  map[Node]int
	choices map[choice]int
}

func newDiagram(vars int) *diagram {
	return &diagram{graph{vars: vars}, map[Node]int{}, map[choice]int{}}
}

// place returns the place of the function that is low where variable v is 0, else high.
func (d *diagram) place(v, low, high int) int {
	if low == high {
		return low
	}
	node := Node{v, low, high}
	place, known := d.places[node]
	if !known {
		place = firstNode + len(d.nodes)
		d.nodes = append(d.nodes, node)
		d.places[node] = place
	}
	return place
}

// add returns the place of a mask.
func (d *diagram) add(f Mask) int {
	at := []int{falsePlace, truePlace}
	for _, node := range f.Nodes {
		at = append(at, d.place(node.Var, at[node.Low], at[node.High]))
	}
	return at[f.Root]
}

// mask returns the function at a place in its only form: just its own nodes, as a visit meets them.
func (d *diagram) mask(root int) Mask {
	f := Mask{Vars: d.vars}
	at := map[int]int{falsePlace: falsePlace, truePlace: truePlace}
	var visit func(place int) int
	visit = func(place int) int {
		if met, visited := at[place]; visited {
			return met
		}
		node := d.nodes[place-firstNode]
		low := visit(node.Low)
		high := visit(node.High)
		met := firstNode + len(f.Nodes)
		f.Nodes = append(f.Nodes, Node{node.Var, low, high})
		at[place] = met
		return met
	}
	f.Root = visit(root)
	return f
}

// choose returns the place of the function that is yes where test is true, else no.
func (d *diagram) choose(test, yes, no int) int {
	switch {
	case test == truePlace || yes == no:
		return yes
	case test == falsePlace:
		return no
	case yes == truePlace && no == falsePlace:
		return test
	}
	key := choice{test, yes, no}
	place, known := d.choices[key]
	if !known {
		v := min(d.level(test), d.level(yes), d.level(no))
		lowTest, highTest := d.parts(test, v)
		lowYes, highYes := d.parts(yes, v)
		lowNo, highNo := d.parts(no, v)
		low := d.choose(lowTest, lowYes, lowNo)
		high := d.choose(highTest, highYes, highNo)
		place = d.place(v, low, high)
		d.choices[key] = place
	}
	return place
}

func (d *diagram) not(f int) int    { return d.choose(f, falsePlace, truePlace) }
func (d *diagram) and(f, g int) int { return d.choose(f, g, falsePlace) }
func (d *diagram) or(f, g int) int  { return d.choose(f, truePlace, g) }
func (d *diagram) xor(f, g int) int { return d.choose(f, d.not(g), g) }

// restrict returns the place of a function with variable i replaced by a value.
func (d *diagram) restrict(root, i int, b bool) int {
	done := map[int]int{}
	var walk func(place int) int
	walk = func(place int) int {
		if d.level(place) >= i {
			low, high := d.parts(place, i)
			if b {
				return high
			}
			return low
		}
		to, known := done[place]
		if !known {
			node := d.nodes[place-firstNode]
			low := walk(node.Low)
			high := walk(node.High)
			to = d.place(node.Var, low, high)
			done[place] = to
		}
		return to
	}
	return walk(root)
}
