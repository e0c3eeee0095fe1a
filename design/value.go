package design

import (
	"strconv"
	"strings"

	"canting/api"
	"canting/mask"
)

// value is what an expression, or its code, comes to.
type value interface {
	// show writes the value.
	show(b *strings.Builder)
}

type number int

type truth bool

type region mask.Mask

type pair struct{ left, right value }

func (n number) show(b *strings.Builder) {
	b.WriteString(numberToken(int(n)))
}

func (t truth) show(b *strings.Builder) {
	b.WriteString(truthToken(bool(t)))
}

func (f region) show(b *strings.Builder) {
	b.WriteString(maskToken(f.text()))
}

func (p pair) show(b *strings.Builder) {
	b.WriteString("(")
	p.left.show(b)
	b.WriteString(", ")
	p.right.show(b)
	b.WriteString(")")
}

// shownFunction is what is shown of a function.
const shownFunction = "fn"

func shown(v value) string {
	var b strings.Builder
	v.show(&b)
	return b.String()
}

// nodes returns how many nodes a value has as a tree, or any number above most if they are more: parts that are shared may make a tree that is far too large to be counted to its end.
func nodes(v value, most int) int {
	p, ok := v.(pair)
	if !ok || most < 1 {
		return 1
	}
	n := 1 + nodes(p.left, most-1)
	if n > most {
		return n
	}
	return n + nodes(p.right, most-n)
}

// text returns the mask as package mask writes it.
func (f region) text() string {
	s, _ := mask.Text(mask.Mask(f))
	return s
}

// regionOf needs the text of a mask.
func regionOf(text string) region {
	return sure(mask.Read(text))
}

func asNumber(v value) number {
	n, ok := v.(number)
	if !ok {
		panic(api.ErrFault)
	}
	return n
}

func asTruth(v value) truth {
	t, ok := v.(truth)
	if !ok {
		panic(api.ErrFault)
	}
	return t
}

func asMask(v value) mask.Mask {
	f, ok := v.(region)
	if !ok {
		panic(api.ErrFault)
	}
	return mask.Mask(f)
}

func asPair(v value) pair {
	p, ok := v.(pair)
	if !ok {
		panic(api.ErrFault)
	}
	return p
}

// numberToken returns a number as programs have it.
func numberToken(n int) string {
	if n < 0 {
		return "_" + strconv.Itoa(-n)
	}
	return strconv.Itoa(n)
}

func truthToken(b bool) string {
	if b {
		return trueWord
	}
	return falseWord
}

func maskToken(text string) string {
	return "{" + text + "}"
}
