package dye

import (
	"cmp"
	"iter"
	"slices"
	"strings"

	"canting/api"
)

const (
	// letters are those of all steps, in order.
	letters = "0123bw"
	// maxRules is the largest number of rules.
	maxRules = 200
	// maxSide is the longest From and To.
	maxSide = 16
	// maxReplacements is how often one string may be changed.
	maxReplacements = 10000
)

// areSteps reports whether s has at most so many bytes, all steps.
func areSteps(s string, most int) bool {
	return len(s) <= most && strings.Trim(s, letters) == ""
}

// shortlex compares two strings of steps.
func shortlex(u, v string) int {
	return cmp.Or(cmp.Compare(len(u), len(v)), cmp.Compare(u, v))
}

func areRules(l []Rule) bool {
	if len(l) > maxRules {
		return false
	}
	for _, r := range l {
		if !areSteps(r.From, maxSide) || !areSteps(r.To, maxSide) || shortlex(r.To, r.From) >= 0 {
			return false
		}
	}
	return true
}

// Reduce applies rules as long as one applies.
func Reduce(r []Rule, s string) (string, api.Errno) {
	if !areRules(r) || !areSteps(s, api.MaxWord) {
		return "", api.ErrArg
	}
	return systemOf(r).reduce(s)
}

// system finds rules by their From.
type system struct {
	rules []Rule
	nodes []node // the first one is that of the empty string
}

// node is one of the strings with which some From begins.
type node struct {
	longer [len(letters)]int // by the next letter: its node, or 0 if there is none
	rule   int               // the first rule of this From, or -1
}

func systemOf(l []Rule) *system {
	s := &system{l, []node{{rule: -1}}}
	for i, r := range l {
		at := 0
		for _, letter := range []byte(r.From) {
			at = s.lengthened(at, letter)
		}
		if s.nodes[at].rule < 0 {
			s.nodes[at].rule = i
		}
	}
	return s
}

// lengthened returns the node of a node's string with one more letter, which it makes if there is none.
func (s *system) lengthened(at int, letter byte) int {
	k := strings.IndexByte(letters, letter)
	if s.nodes[at].longer[k] == 0 {
		s.nodes[at].longer[k] = len(s.nodes)
		s.nodes = append(s.nodes, node{rule: -1})
	}
	return s.nodes[at].longer[k]
}

// first returns the first rule whose From the text begins with, or -1.
func (s *system) first(text []byte) int {
	first, at := -1, 0
	for _, letter := range text {
		at = s.nodes[at].longer[strings.IndexByte(letters, letter)]
		if at == 0 {
			break
		}
		if rule := s.nodes[at].rule; rule >= 0 && (first < 0 || rule < first) {
			first = rule
		}
	}
	return first
}

// reduce applies rules to a string of any length.
func (s *system) reduce(text string) (string, api.Errno) {
	left := []byte(text)
	done := 0
	for at := 0; at < len(left); {
		i := s.first(left[at:])
		if i < 0 {
			at++
			continue
		}
		if done == maxReplacements {
			return "", api.ErrFuel
		}
		done++
		r := s.rules[i]
		left = slices.Replace(left, at, at+len(r.From), []byte(r.To)...)
		// No rule applied before this place: one does now only if it reaches what is new.
		at = max(0, at-maxSide+1)
	}
	return string(left), api.OK
}

// Pairs returns the critical pairs of rules.
func Pairs(r []Rule) ([][2]string, api.Errno) {
	if !areRules(r) {
		return nil, api.ErrArg
	}
	var out [][2]string
	for u, v := range criticalPairs(r) {
		out = append(out, [2]string{u, v})
	}
	return out, api.OK
}

// criticalPairs gives the critical pairs of rules in order.
func criticalPairs(l []Rule) iter.Seq2[string, string] {
	return func(yield func(string, string) bool) {
		for i, a := range l {
			for j, b := range l {
				if !overlaps(a, b, yield) || i != j && !insides(a, b, yield) {
					return
				}
			}
		}
	}
}

// overlaps gives the pairs of a and b where b begins in the end of a, and tells whether to go on.
func overlaps(a, b Rule, yield func(string, string) bool) bool {
	for k := 1; k < min(len(a.From), len(b.From)); k++ {
		front, end := a.From[:len(a.From)-k], a.From[len(a.From)-k:]
		rest, ok := strings.CutPrefix(b.From, end)
		if ok && !yield(a.To+rest, front+b.To) {
			return false
		}
	}
	return true
}

// insides gives the pairs of a and b where b is a stretch of a, and tells whether to go on.
func insides(a, b Rule, yield func(string, string) bool) bool {
	for p := range len(a.From) {
		rest, ok := strings.CutPrefix(a.From[p:], b.From)
		if ok && !yield(a.To, a.From[:p]+b.To+rest) {
			return false
		}
	}
	return true
}

// Confluent reports whether all critical pairs are joined.
func Confluent(r []Rule) (bool, api.Errno) {
	if !areRules(r) {
		return false, api.ErrArg
	}
	s := systemOf(r)
	known := map[string]string{} // what is left of strings: many pairs have one in common
	reduce := func(text string) (string, api.Errno) {
		left, ok := known[text]
		if ok {
			return left, api.OK
		}
		left, e := s.reduce(text)
		known[text] = left
		return left, e
	}
	confluent := true
	for u, v := range criticalPairs(r) {
		x, e := reduce(u)
		y, f := reduce(v)
		if e != api.OK || f != api.OK {
			return false, api.ErrFuel
		}
		// There is no end here: a later pair may need too many replacements.
		confluent = confluent && x == y
	}
	return confluent, api.OK
}
