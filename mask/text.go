package mask

import (
	"strconv"
	"strings"

	"canting/api"
)

// Text returns a mask as a string.
func Text(f Mask) (string, api.Errno) {
	if !Valid(f) {
		return "", api.ErrArg
	}
	return text(f), api.OK
}

const (
	falseText = "F"
	trueText  = "T"
)

func text(f Mask) string {
	var b strings.Builder
	b.WriteString(strconv.Itoa(f.Vars))
	for _, node := range f.Nodes {
		b.WriteString(" " + strconv.Itoa(node.Var) + "?" + strconv.Itoa(node.High) + ":" + strconv.Itoa(node.Low))
	}
	switch f.Root {
	case falsePlace:
		b.WriteString(" " + falseText)
	case truePlace:
		b.WriteString(" " + trueText)
	}
	return b.String()
}

// Read returns the mask of a string.
func Read(s string) (Mask, api.Errno) {
	f, ok := parse(s)
	// The numbers may still be written in another way, with a sign or with zeros in front.
	if !ok || !Valid(f) || text(f) != s {
		return Mask{}, api.ErrForm
	}
	return f, api.OK
}

// parse takes a string apart; what it finds need not be valid.
func parse(s string) (Mask, bool) {
	vars, rest, ok := strings.Cut(s, " ")
	n, err := strconv.Atoi(vars)
	if !ok || err != nil {
		return Mask{}, false
	}
	switch rest {
	case falseText:
		return Mask{Vars: n, Root: falsePlace}, true
	case trueText:
		return Mask{Vars: n, Root: truePlace}, true
	}
	var nodes []Node
	for part := range strings.SplitSeq(rest, " ") {
		node, ok := parseNode(part)
		if !ok {
			return Mask{}, false
		}
		nodes = append(nodes, node)
	}
	return Mask{n, nodes, len(nodes) + 1}, true
}

func parseNode(s string) (Node, bool) {
	first, rest, question := strings.Cut(s, "?")
	second, third, colon := strings.Cut(rest, ":")
	v, err1 := strconv.Atoi(first)
	high, err2 := strconv.Atoi(second)
	low, err3 := strconv.Atoi(third)
	return Node{v, low, high}, question && colon && err1 == nil && err2 == nil && err3 == nil
}
