package dye

import "canting/api"

// monoid has the actions of an overlay, by the order of their normal forms.
type monoid struct {
	steps []step
	acts  []action
	forms []string
	place map[action]int // of an action
	right [][]int        // for each action and step, the place of the action and then the step
}

// monoidOf lists the actions of an overlay. A normal form is a normal form and a step, as what is left of it without the step is the first string with its action: so each form is found from one that is found before it.
func monoidOf(o Overlay) (*monoid, api.Errno) {
	if !Valid(o) {
		return nil, api.ErrArg
	}
	m := &monoid{steps: stepsOf(o), place: map[action]int{}}
	m.add("", nothing())
	for i := 0; i < len(m.acts); i++ {
		goals := make([]int, 0, len(m.steps))
		for _, s := range m.steps {
			a := m.acts[i].then(s.does)
			if _, known := m.place[a]; !known {
				if len(m.acts) == api.MaxElems || len(m.forms[i]) == api.MaxWord {
					return nil, api.ErrSize
				}
				m.add(m.forms[i]+string(s.letter), a)
			}
			goals = append(goals, m.place[a])
		}
		m.right = append(m.right, goals)
	}
	return m, api.OK
}

func (m *monoid) add(form string, a action) {
	m.place[a] = len(m.acts)
	m.acts = append(m.acts, a)
	m.forms = append(m.forms, form)
}

// Elements returns all normal forms.
func Elements(o Overlay) ([]string, api.Errno) {
	m, e := monoidOf(o)
	if e != api.OK {
		return nil, e
	}
	return m.forms, api.OK
}

// Normal returns the normal form of a word.
func Normal(o Overlay, w string) (string, api.Errno) {
	a, ok := wordAction(o, w)
	if !ok {
		return "", api.ErrArg
	}
	m, e := monoidOf(o)
	if e != api.OK {
		return "", e
	}
	return m.forms[m.place[a]], api.OK
}

// Find returns the normal form with an action.
func Find(o Overlay, act []int) (string, api.Errno) {
	if !Valid(o) || len(act) != 2*o.Colours || !areBelow(act, 2*o.Colours) {
		return "", api.ErrArg
	}
	m, e := monoidOf(o)
	if e != api.OK {
		return "", e
	}
	a := nothing()
	for s, to := range act {
		a[s] = byte(to)
	}
	i, ok := m.place[a]
	if !ok {
		return "", api.ErrNone
	}
	return m.forms[i], api.OK
}

// Rules returns the reduced complete rewriting system.
func Rules(o Overlay) ([]Rule, api.Errno) {
	m, e := monoidOf(o)
	if e != api.OK {
		return nil, e
	}
	isForm := map[string]bool{}
	for _, form := range m.forms {
		isForm[form] = true
	}
	var out []Rule
	for i, form := range m.forms {
		for k, s := range m.steps {
			// Each shorter factor is one of the string without its first or its last step, and all factors of normal forms are normal forms.
			from := form + string(s.letter)
			if !isForm[from] && isForm[from[1:]] {
				out = append(out, Rule{from, m.forms[m.right[i][k]]})
			}
		}
	}
	return out, api.OK
}
