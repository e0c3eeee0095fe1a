package works

import (
	"cmp"
	"slices"
	"strconv"
	"strings"

	"canting/dye"
)

const (
	// maxEntries is how many entries a book may have before it takes no more.
	maxEntries = 400
	maxShop    = 3
	// maxCount is the greatest Time and No.
	maxCount = 1 << 40
)

func isShop(shop int) bool {
	return isBetween(shop, 0, maxShop)
}

// isEntry reports whether e is valid.
func isEntry(e Entry) bool {
	return isBetween(e.Time, 1, maxCount) && isShop(e.Shop) && isBetween(e.No, 1, maxCount) && isLine(e.Line)
}

// areEntries reports whether all of l are valid.
func areEntries(l []Entry) bool {
	for _, e := range l {
		if !isEntry(e) {
			return false
		}
	}
	return true
}

// pieceName returns the name of the piece that an entry makes.
func pieceName(shop, no int) string {
	return strconv.Itoa(shop) + "." + strconv.Itoa(no)
}

// isPieceName reports whether an entry may make a piece of this name.
func isPieceName(s string) bool {
	first, second, dot := strings.Cut(s, ".")
	shop, isFirst := number(first)
	no, isSecond := number(second)
	return dot && isFirst && isSecond && isShop(shop) && isBetween(no, 1, maxCount)
}

// name is what the entries of a book differ in.
type name struct{ shop, no int }

type names map[name]bool

// add adds the name of an entry, and reports whether it is new.
func (l names) add(e Entry) bool {
	n := name{e.Shop, e.No}
	isNew := !l[n]
	l[n] = true
	return isNew
}

// note is an entry with what its line asks for.
type note struct {
	Entry
	order
}

// noted reads the line of an entry.
func noted(e Entry, o dye.Overlay) note {
	n := note{Entry: e}
	n.order, _ = read(e.Line, changes())
	n.makes = pieceName(e.Shop, e.No)
	if n.plan != nil {
		n.step, n.fault = n.plan(n.order, o)
	}
	return n
}

// isVoid reports whether the line is no change.
func (n note) isVoid() bool {
	return n.do == nil
}

// book has notes of valid entries with different names. It is kept in order.
type book []note

func (b book) sort() {
	slices.SortFunc(b, func(m, n note) int {
		return cmp.Or(cmp.Compare(m.Time, n.Time), cmp.Compare(m.Shop, n.Shop), cmp.Compare(m.No, n.No))
	})
}

func (b book) entries() []Entry {
	var l []Entry
	for _, n := range b {
		l = append(l, n.Entry)
	}
	return l
}

// lastTime returns the greatest Time, or 0.
func (b book) lastTime() int {
	if len(b) == 0 {
		return 0
	}
	return b[len(b)-1].Time
}

// lastNo returns the greatest No of a shop, or 0.
func (b book) lastNo(shop int) int {
	last := 0
	for _, n := range b {
		if n.Shop == shop {
			last = max(last, n.No)
		}
	}
	return last
}

// fresh returns the entries of l that have other names than all of the book and all before them.
func (b book) fresh(l []Entry) []Entry {
	met := names{}
	for _, n := range b {
		met.add(n.Entry)
	}
	var out []Entry
	for _, e := range l {
		if met.add(e) {
			out = append(out, e)
		}
	}
	return out
}

// floor returns the pieces of the book.
func (b book) floor() *floor {
	f := &floor{}
	for _, n := range b {
		if !n.isVoid() {
			// An entry that has an error changes nothing.
			n.do(f, n.order)
		}
	}
	return f
}
