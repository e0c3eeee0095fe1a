package works

import (
	"strconv"
	"strings"

	"canting/api"
)

const (
	// maxPieces is how many pieces may be on the floor.
	maxPieces = 16
	// maxAsked is the greatest coordinate, and the greatest colour.
	maxAsked = 7
)

// floor has the pieces of a book.
type floor struct{ pieces []*piece }

// find returns a piece by its name.
func (f *floor) find(name string) (*piece, bool) {
	for _, p := range f.pieces {
		if p.name == name {
			return p, true
		}
	}
	return nil, false
}

// add makes a new piece.
func (f *floor) add(o order) (string, api.Errno) {
	if len(f.pieces) >= maxPieces {
		return "", api.ErrFull
	}
	f.pieces = append(f.pieces, &piece{name: o.makes})
	return o.reply(o.makes), api.OK
}

// change does the step of an order.
func (f *floor) change(o order) (string, api.Errno) {
	p, ok := f.find(o.piece)
	if !ok {
		return "", api.ErrNone
	}
	if o.fault != api.OK {
		return "", o.fault
	}
	return o.reply(strconv.Itoa(p.take(o.step))), api.OK
}

// list names all pieces.
func (f *floor) list(o order) (string, api.Errno) {
	var names []string
	for _, p := range f.pieces {
		names = append(names, p.name)
	}
	return o.reply(strings.Join(names, " ")), api.OK
}

// tell answers a question about a piece.
func (f *floor) tell(o order) (string, api.Errno) {
	p, ok := f.find(o.piece)
	if !ok {
		return "", api.ErrNone
	}
	for _, n := range o.numbers {
		if n > maxAsked {
			return "", api.ErrArg
		}
	}
	return o.reply(o.answer(p, o.numbers)), api.OK
}

func (f *floor) state() string {
	var b strings.Builder
	for _, p := range f.pieces {
		b.WriteString(p.state())
	}
	return b.String()
}
