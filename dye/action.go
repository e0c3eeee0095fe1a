package dye

import "canting/api"

// states is the largest number of states.
const states = 2 * api.MaxColour

// bare returns the state of a bare cell of a colour.
func bare(colour int) int {
	return 2 * colour
}

// waxed returns the state of a waxed cell of a colour.
func waxed(colour int) int {
	return 2*colour + 1
}

// action says what is made of each state. What is no state of the overlay stays as it is, so that equal actions are equal arrays.
type action [states]byte

// nothing returns the action that leaves all states as they are.
func nothing() action {
	var a action
	for s := range a {
		a[s] = byte(s)
	}
	return a
}

// then returns the action that does a and then b.
func (a action) then(b action) action {
	var both action
	for s, to := range a {
		both[s] = b[to]
	}
	return both
}

// step is a letter and what it does.
type step struct {
	letter rune
	does   action
}

// stepsOf returns the steps of an overlay, in the order of their letters.
func stepsOf(o Overlay) []step {
	var l []step
	for i, dye := range o.Dyes {
		does := nothing()
		for colour, to := range dye {
			does[bare(colour)] = byte(bare(to))
		}
		l = append(l, step{'0' + rune(i), does})
	}
	boil, wax := nothing(), nothing()
	for colour := range o.Colours {
		boil[waxed(colour)] = byte(bare(colour))
		wax[bare(colour)] = byte(waxed(colour))
	}
	return append(l, step{'b', boil}, step{'w', wax})
}

// wordAction returns the action of a word, and false if o is no overlay or w no word for it.
func wordAction(o Overlay, w string) (action, bool) {
	if !Valid(o) || len(w) > api.MaxWord {
		return action{}, false
	}
	steps := stepsOf(o)
	done := nothing()
	for _, letter := range w {
		does, ok := find(steps, letter)
		if !ok {
			return action{}, false
		}
		done = done.then(does)
	}
	return done, true
}

// find returns what the step with a letter does, and false if there is none.
func find(steps []step, letter rune) (action, bool) {
	for _, s := range steps {
		if s.letter == letter {
			return s.does, true
		}
	}
	return action{}, false
}
