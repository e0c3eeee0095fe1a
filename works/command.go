package works

import (
	"strings"

	"canting/api"
	"canting/dye"
)

// command says what lines that begin with a word are like, and what they do.
type command struct {
	word string
	form string // what the words behind the first one are, a letter for each
	do   func(f *floor, o order) (string, api.Errno)
	// plan says what is done to the cells of a piece, where cells are changed.
	plan func(o order, overlay dye.Overlay) (step, api.Errno)
	// answer says what a piece is like, where this is asked.
	answer func(p *piece, numbers []int) string
}

// The letters of forms.
const (
	pieceWord  = 'P'
	numberWord = 'n'
	digitsWord = 'c'
	restOfLine = 'e' // one word or more
)

// order is a line that was read.
type order struct {
	command
	piece   string // of which it is
	numbers []int
	text    string    // digits or a design
	makes   string    // the name of the piece that it makes
	step              // what it does to the cells of its piece
	fault   api.Errno // why it does nothing to them
}

// changes returns the commands for Do.
func changes() []command {
	return []command{
		{word: "piece", do: (*floor).add},
		{word: "wax", form: "Pe", do: (*floor).change, plan: order.wax},
		{word: "scrape", form: "Pe", do: (*floor).change, plan: order.scrape},
		{word: "tile", form: "Pnnc", do: (*floor).change, plan: order.tile},
		{word: "boil", form: "P", do: (*floor).change, plan: order.boil},
		{word: "dye", form: "Pn", do: (*floor).change, plan: order.dye},
	}
}

// questions returns the commands for Ask.
func questions() []command {
	return []command{
		{word: "list", do: (*floor).list},
		{word: "colour", form: "Pnn", do: (*floor).tell, answer: (*piece).colour},
		{word: "where", form: "Pn", do: (*floor).tell, answer: (*piece).where},
		{word: "waxed", form: "P", do: (*floor).tell, answer: (*piece).waxed},
		{word: "word", form: "Pnn", do: (*floor).tell, answer: (*piece).word},
	}
}

// read returns the order of a line by one of the commands, and false if it is none.
func read(line string, commands []command) (order, bool) {
	if !isLine(line) {
		return order{}, false
	}
	first, _, _ := strings.Cut(line, " ")
	for _, c := range commands {
		if c.word == first {
			return c.read(line)
		}
	}
	return order{}, false
}

// read returns the order of a line that begins with the command's word, and false if it has another form.
func (c command) read(line string) (order, bool) {
	count := len(c.form) + 1
	words := strings.Split(line, " ")
	if strings.IndexByte(c.form, restOfLine) >= 0 {
		words = strings.SplitN(line, " ", count)
	}
	if len(words) != count {
		return order{}, false
	}
	o := order{command: c}
	for i, word := range words[1:] {
		switch c.form[i] {
		case pieceWord:
			o.piece = word
		case numberWord:
			n, ok := number(word)
			if !ok || len(word) > maxDigits {
				return order{}, false
			}
			o.numbers = append(o.numbers, n)
		case digitsWord, restOfLine:
			o.text = word
		}
	}
	return o, true
}

// reply returns what an order is answered with: its word, and what there is to say.
func (o order) reply(text string) string {
	if text == "" {
		return o.word
	}
	return o.word + " " + text
}
