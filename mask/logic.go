package mask

import (
	"slices"

	"canting/api"
)

// combine returns the mask of the function that an operation makes of the places of masks.
func combine(operation func(d *diagram, at []int) int, l ...Mask) (Mask, api.Errno) {
	if !together(l...) {
		return Mask{}, api.ErrArg
	}
	d := newDiagram(l[0].Vars)
	at := make([]int, len(l))
	for i, f := range l {
		at[i] = d.add(f)
	}
	return d.mask(operation(d, at)), api.OK
}

// Not returns the negation.
func Not(f Mask) (Mask, api.Errno) {
	return combine(func(d *diagram, at []int) int { return d.not(at[0]) }, f)
}

// And returns the conjunction.
func And(f, g Mask) (Mask, api.Errno) {
	return combine(func(d *diagram, at []int) int { return d.and(at[0], at[1]) }, f, g)
}

// Or returns the disjunction.
func Or(f, g Mask) (Mask, api.Errno) {
	return combine(func(d *diagram, at []int) int { return d.or(at[0], at[1]) }, f, g)
}

// Xor returns where just one is true.
func Xor(f, g Mask) (Mask, api.Errno) {
	return combine(func(d *diagram, at []int) int { return d.xor(at[0], at[1]) }, f, g)
}

// Ite returns g where f is true, else h.
func Ite(f, g, h Mask) (Mask, api.Errno) {
	return combine(func(d *diagram, at []int) int { return d.choose(at[0], at[1], at[2]) }, f, g, h)
}

// Restrict replaces a variable by a constant.
func Restrict(f Mask, i int, b bool) (Mask, api.Errno) {
	if i < 0 || i >= f.Vars {
		return Mask{}, api.ErrArg
	}
	return combine(func(d *diagram, at []int) int { return d.restrict(at[0], i, b) }, f)
}

// Compose replaces a variable by a function.
func Compose(f Mask, i int, g Mask) (Mask, api.Errno) {
	if i < 0 || i >= f.Vars {
		return Mask{}, api.ErrArg
	}
	replace := func(d *diagram, at []int) int {
		no := d.restrict(at[0], i, false)
		yes := d.restrict(at[0], i, true)
		return d.choose(at[1], yes, no)
	}
	return combine(replace, f, g)
}

// Exists returns where f is true for some values of variables.
func Exists(f Mask, set []int) (Mask, api.Errno) {
	return quantify(f, set, (*diagram).or)
}

// Forall returns where f is true for all values of variables.
func Forall(f Mask, set []int) (Mask, api.Errno) {
	return quantify(f, set, (*diagram).and)
}

// quantify joins what f is for both values of each variable of a set.
func quantify(f Mask, set []int, join func(d *diagram, f, g int) int) (Mask, api.Errno) {
	if !Valid(f) || !isSet(set, f.Vars) {
		return Mask{}, api.ErrArg
	}
	eliminate := func(d *diagram, at []int) int {
		place := at[0]
		for _, i := range set {
			no := d.restrict(place, i, false)
			yes := d.restrict(place, i, true)
			place = join(d, no, yes)
		}
		return place
	}
	return combine(eliminate, f)
}

// Support returns the variables on which f depends: those that a reduced diagram asks.
func Support(f Mask) ([]int, api.Errno) {
	if !Valid(f) {
		return nil, api.ErrArg
	}
	var asked []int
	for _, node := range f.Nodes {
		asked = append(asked, node.Var)
	}
	slices.Sort(asked)
	return slices.Compact(asked), api.OK
}
