package works_test

import (
	"cmp"
	"fmt"
	"math/rand"
	"regexp"
	"slices"
	"strconv"
	"strings"
	"testing"

	"canting/api"
	"canting/design"
	"canting/dye"
	"canting/mask"
	"canting/works"
)

// The tests compare package works with a model of the chapter, in which lines are read by regular expressions and cells are dyed one by one, and only through the exported functions.

const most = 1 << 40

// must returns the result of a call that has to succeed.
func must[T any](x T, e api.Errno) T {
	if e != api.OK {
		panic(e)
	}
	return x
}

// overlays have from no dyes to four.
func overlays() []dye.Overlay {
	return []dye.Overlay{
		{Colours: 3, Dyes: [][]int{{1, 1, 2}, {2, 2, 2}}},
		{Colours: 1},
		{Colours: 2, Dyes: [][]int{{1, 0}}},
		{Colours: 8, Dyes: [][]int{{1, 2, 3, 4, 5, 6, 7, 0}, {0, 0, 0, 0, 1, 1, 1, 1}, {7, 6, 5, 4, 3, 2, 1, 0}, {3, 3, 3, 3, 3, 3, 3, 3}}},
		{Colours: 8, Dyes: [][]int{{0, 1, 2, 3, 4, 5, 6, 7}, {5, 5, 5, 5, 5, 5, 5, 5}, {1, 0, 3, 2, 5, 4, 7, 6}}},
	}
}

// square is a cell of a piece.
type square struct {
	colour int
	waxed  bool
	word   string
}

// cloth is a piece.
type cloth struct {
	name    string
	squares [8][8]square // [y][x]
}

// shop is a model of the pieces of a book.
type shop struct {
	overlay dye.Overlay
	cloths  []*cloth
}

// patterns are those that were compiled.
var patterns = map[string]*regexp.Regexp{}

// match returns what the brackets of a pattern hold in s, and nil if s is not as it says.
func match(pattern, s string) []string {
	if patterns[pattern] == nil {
		patterns[pattern] = regexp.MustCompile(pattern)
	}
	return patterns[pattern].FindStringSubmatch(s)
}

// isLine follows the definition.
func isLine(s string) bool {
	return len(s) <= 1000 && match(`\A[!-~]+( [!-~]+)*\z`, s) != nil
}

// wordsOf returns what the brackets of a pattern hold, in which N is a number, and nil if it is not the whole line.
func wordsOf(pattern, line string) []string {
	pattern = strings.ReplaceAll(pattern, "N", `(0|[1-9][0-9]{0,8})`)
	if !isLine(line) {
		return nil
	}
	return match(`\A`+pattern+`\z`, line)
}

func numeral(s string) int {
	n, err := strconv.Atoi(s)
	if err != nil {
		panic(err)
	}
	return n
}

func (m *shop) cloth(name string) *cloth {
	for _, c := range m.cloths {
		if c.name == name {
			return c
		}
	}
	return nil
}

// count does something to each cell and returns how many it answers true for.
func (c *cloth) count(do func(x, y int, s *square) bool) int {
	n := 0
	for y := range 8 {
		for x := range 8 {
			if do(x, y, &c.squares[y][x]) {
				n++
			}
		}
	}
	return n
}

func (s *square) wax() bool {
	was := s.waxed
	s.waxed, s.word = true, s.word+"w"
	return !was
}

func (s *square) scrape() bool {
	was := s.waxed
	s.waxed, s.word = false, s.word+"b"
	return was
}

func (s *square) dye(colours []int, i int) bool {
	was := s.colour
	if !s.waxed {
		s.colour = colours[s.colour]
	}
	s.word += strconv.Itoa(i)
	return s.colour != was
}

// cellsOf returns the cells of a design.
func cellsOf(text string) (func(x, y int) bool, api.Errno) {
	e, bad := design.Parse(text)
	if bad != api.OK {
		return nil, bad
	}
	if kind, bad := design.Infer(e); bad != api.OK || kind != "mask" {
		return nil, api.ErrType
	}
	v, _, bad := design.Run(e, 2000)
	if bad != api.OK {
		return nil, bad
	}
	m := must(mask.Read(v.Name))
	return func(x, y int) bool { return must(mask.At(m, must(mask.Cell(3, x, y)))) }, api.OK
}

// do makes a change. A piece that it makes takes the name that is given.
func (m *shop) do(name, line string) (string, api.Errno) {
	if wordsOf(`piece`, line) != nil {
		if len(m.cloths) == 16 {
			return "", api.ErrFull
		}
		m.cloths = append(m.cloths, &cloth{name: name})
		return "piece " + name, api.OK
	}
	for _, try := range []func(*shop, string) (string, api.Errno, bool){(*shop).draw, (*shop).tile, (*shop).boil, (*shop).dye} {
		if reply, e, ok := try(m, line); ok {
			return reply, e
		}
	}
	return "", api.ErrForm
}

func (m *shop) draw(line string) (string, api.Errno, bool) {
	w := wordsOf(`(wax|scrape) ([^ ]+) (.+)`, line)
	if w == nil {
		return "", 0, false
	}
	c := m.cloth(w[2])
	if c == nil {
		return "", api.ErrNone, true
	}
	in, e := cellsOf(w[3])
	if e != api.OK {
		return "", e, true
	}
	n := c.count(func(x, y int, s *square) bool {
		if w[1] == "wax" {
			return in(x, y) && s.wax()
		}
		return in(x, y) && s.scrape()
	})
	return fmt.Sprint(w[1], " ", n), api.OK, true
}

func (m *shop) tile(line string) (string, api.Errno, bool) {
	words := wordsOf(`tile ([^ ]+) N N ([^ ]+)`, line)
	if words == nil {
		return "", 0, false
	}
	c := m.cloth(words[1])
	if c == nil {
		return "", api.ErrNone, true
	}
	w, h, digits := numeral(words[2]), numeral(words[3]), words[4]
	if w < 1 || w > 8 || h < 1 || h > 8 || len(digits) != w*h || strings.Trim(digits, "01234567") != "" {
		return "", api.ErrArg, true
	}
	n := c.count(func(x, y int, s *square) bool { return digits[(y%h)*w+x%w] != '0' && s.wax() })
	return fmt.Sprint("tile ", n), api.OK, true
}

func (m *shop) boil(line string) (string, api.Errno, bool) {
	w := wordsOf(`boil ([^ ]+)`, line)
	if w == nil {
		return "", 0, false
	}
	c := m.cloth(w[1])
	if c == nil {
		return "", api.ErrNone, true
	}
	n := c.count(func(x, y int, s *square) bool { return s.scrape() })
	return fmt.Sprint("boil ", n), api.OK, true
}

func (m *shop) dye(line string) (string, api.Errno, bool) {
	w := wordsOf(`dye ([^ ]+) N`, line)
	if w == nil {
		return "", 0, false
	}
	c, i := m.cloth(w[1]), numeral(w[2])
	if c == nil {
		return "", api.ErrNone, true
	}
	if i >= len(m.overlay.Dyes) {
		return "", api.ErrArg, true
	}
	n := c.count(func(x, y int, s *square) bool { return s.dye(m.overlay.Dyes[i], i) })
	return fmt.Sprint("dye ", n), api.OK, true
}

// maskText returns the mask of the cells that meet a condition.
func (c *cloth) maskText(condition func(s square) bool) string {
	table := make([]bool, 64)
	c.count(func(x, y int, s *square) bool {
		table[must(mask.Cell(3, x, y))] = condition(*s)
		return true
	})
	return must(mask.Text(must(mask.FromTable(table))))
}

func (m *shop) ask(line string) (string, api.Errno) {
	if wordsOf(`list`, line) != nil {
		reply := "list"
		for _, c := range m.cloths {
			reply += " " + c.name
		}
		return reply, api.OK
	}
	if w := wordsOf(`(colour|word) ([^ ]+) N N`, line); w != nil {
		c, x, y := m.cloth(w[2]), numeral(w[3]), numeral(w[4])
		switch {
		case c == nil:
			return "", api.ErrNone
		case x > 7 || y > 7:
			return "", api.ErrArg
		case w[1] == "colour":
			return fmt.Sprint("colour ", c.squares[y][x].colour), api.OK
		case c.squares[y][x].word == "":
			return "word", api.OK
		}
		return "word " + c.squares[y][x].word, api.OK
	}
	if w := wordsOf(`where ([^ ]+) N`, line); w != nil {
		c, colour := m.cloth(w[1]), numeral(w[2])
		switch {
		case c == nil:
			return "", api.ErrNone
		case colour > 7:
			return "", api.ErrArg
		}
		return "where " + c.maskText(func(s square) bool { return s.colour == colour }), api.OK
	}
	if w := wordsOf(`waxed ([^ ]+)`, line); w != nil {
		c := m.cloth(w[1])
		if c == nil {
			return "", api.ErrNone
		}
		return "waxed " + c.maskText(func(s square) bool { return s.waxed }), api.OK
	}
	return "", api.ErrForm
}

func (m *shop) state() string {
	text := ""
	for _, c := range m.cloths {
		colours, wax := "", ""
		c.count(func(x, y int, s *square) bool {
			colours += strconv.Itoa(s.colour)
			if s.waxed {
				wax += "w"
			} else {
				wax += "b"
			}
			return true
		})
		text += c.name + " " + colours + " " + wax + "\n"
	}
	return text
}

// compare puts entries in order.
func compare(a, b works.Entry) int {
	return cmp.Or(cmp.Compare(a.Time, b.Time), cmp.Compare(a.Shop, b.Shop), cmp.Compare(a.No, b.No))
}

func inOrder(l []works.Entry) []works.Entry {
	return slices.SortedFunc(slices.Values(l), compare)
}

func nameOf(shop, no int) string {
	return fmt.Sprintf("%d.%d", shop, no)
}

// shopOf returns the model of the pieces of a book, whose entries stand in any order.
func shopOf(o dye.Overlay, l []works.Entry) *shop {
	m := &shop{overlay: o}
	for _, e := range inOrder(l) {
		m.do(nameOf(e.Shop, e.No), e.Line)
	}
	return m
}

func recordOf(e works.Entry) string {
	return fmt.Sprintf("%d %d %d %s\n", e.Time, e.Shop, e.No, e.Line)
}

func recordsOf(l []works.Entry) string {
	var s strings.Builder
	for _, e := range l {
		s.WriteString(recordOf(e))
	}
	return s.String()
}

// newDisk returns a disk that has some bytes, which are safe.
func newDisk(content string) *works.Disk {
	d := must(works.NewDisk(1_000_000))
	mustDo(d.Append([]byte(content)))
	mustDo(d.Sync())
	return d
}

func mustDo(e api.Errno) {
	if e != api.OK {
		panic(e)
	}
}

// newWorks returns a workshop with a book.
func newWorks(shop int, o dye.Overlay, l ...works.Entry) *works.Works {
	return must(works.Open(newDisk(recordsOf(l)), shop, o))
}

// doAll makes changes that all have to succeed.
func doAll(w *works.Works, lines ...string) {
	for _, line := range lines {
		must(w.Do(line))
	}
}

// checkWorks compares a workshop with the model of its book, which must be l.
func checkWorks(t *testing.T, w *works.Works, o dye.Overlay, l []works.Entry) {
	t.Helper()
	if !slices.Equal(w.Book(), inOrder(l)) {
		t.Fatalf("Book %v, want %v", w.Book(), inOrder(l))
	}
	m := shopOf(o, l)
	if got, want := w.State(), m.state(); got != want {
		t.Fatalf("of %v: State\n%swant\n%s", inOrder(l), got, want)
	}
	ask := func(line string) {
		t.Helper()
		got, e := w.Ask(line)
		want, f := m.ask(line)
		if got != want || e != f {
			t.Fatalf("of %v: %s: %q, %v, want %q, %v", inOrder(l), line, got, e, want, f)
		}
	}
	ask("list")
	for _, c := range m.cloths {
		ask("waxed " + c.name)
		ask("where " + c.name + " 0")
		ask("where " + c.name + " 2")
		ask("word " + c.name + " 0 0")
		ask("word " + c.name + " 6 1")
		ask("colour " + c.name + " 3 5")
	}
}

// drawings are designs of masks, with the cells that they have.
func drawings() map[string]func(x, y int) bool {
	return map[string]func(x, y int) bool{
		"rect(0, 0, 3, 7)":                    func(x, y int) bool { return x <= 3 },
		"rect(0,0,3,7)":                       func(x, y int) bool { return x <= 3 },
		"rect(5, 1, 5, 1)":                    func(x, y int) bool { return x == 5 && y == 1 },
		"rect(_9, _9, 1000, 2)":               func(x, y int) bool { return y <= 2 },
		"rect(3, 0, 2, 7)":                    func(x, y int) bool { return false },
		"{6 T}":                               func(x, y int) bool { return true },
		"{6 F}":                               func(x, y int) bool { return false },
		"{6 0?1:0}":                           func(x, y int) bool { return x >= 4 },
		"{6 1?1:0}":                           func(x, y int) bool { return y >= 4 },
		"comp({6 5?1:0})":                     func(x, y int) bool { return y%2 == 0 },
		"turn(rect(0, 0, 0, 3))":              func(x, y int) bool { return y == 0 && x >= 4 },
		"shift(1, 2, rect(7, 7, 7, 7))":       func(x, y int) bool { return x == 0 && y == 1 },
		"rect(0, 0, 3, 7) & rect(0, 0, 7, 3)": func(x, y int) bool { return x <= 3 && y <= 3 },
		"rect(0, 0, 3, 7) | rect(0, 0, 7, 3)": func(x, y int) bool { return x <= 3 || y <= 3 },
		"(fn x -> turn(turn(x))) {6 0?1:0}":   func(x, y int) bool { return x <= 3 },
		"let i = fn x -> x in i (i rect(2, 0, 2, 7))":                                           func(x, y int) bool { return x == 2 },
		"if 1 < 2 then {6 4?1:0} else {6 T}":                                                    func(x, y int) bool { return x%2 == 1 },
		"fst((rect(0, 6, 7, 7), 1))":                                                            func(x, y int) bool { return y >= 6 },
		"let rec f n = if n < 1 then rect(0, 0, 0, 0) else f (n - 1) | shift(n, n, f 0) in f 7": func(x, y int) bool { return x == y },
	}
}

// wrong are designs that have no mask, with the errors.
func wrong() map[string]api.Errno {
	return map[string]api.Errno{
		"rect(1, 2)":                       api.ErrForm,
		"rect(0, 0, 3, 7":                  api.ErrForm,
		"(":                                api.ErrForm,
		"fn":                               api.ErrForm,
		"rect(00, 0, 3, 7)":                api.ErrForm,
		"{6 0?0:1}}":                       api.ErrForm,
		"{4 T}":                            api.ErrForm,
		"{6 0?1:1}":                        api.ErrForm,
		"A":                                api.ErrForm,
		"-1":                               api.ErrForm,
		"rect(0, 0, 3, 7) ;":               api.ErrForm,
		deep("turn(", 60, "{6 T}", ")"):    api.ErrSize,
		wide("{6 T}", "|", 152):            api.ErrSize,
		"1":                                api.ErrType,
		"true":                             api.ErrType,
		"x":                                api.ErrType,
		"{6 T} {6 T}":                      api.ErrType,
		"fn x -> x x":                      api.ErrType,
		"fn x -> {6 T}":                    api.ErrType,
		"({6 T}, {6 T})":                   api.ErrType,
		"let rec f n = f n in f 1":         api.ErrType,
		"rect(0, 0, 3, x)":                 api.ErrType,
		"rect(0, 0, 3, 7) | 1":             api.ErrType,
		"shift(1000000000 + 1, 0, {6 T})":  api.ErrRange,
		"let rec f n = f n in f 1 | {6 T}": api.ErrFuel,
		"let rec f n = if n < 1 then {6 T} else f (n - 1)" + strings.Repeat(" | {6 F}", 20) + " in f 40": api.ErrSize,
	}
}

func deep(front string, times int, middle, back string) string {
	return strings.Repeat(front, times) + middle + strings.Repeat(back, times)
}

func wide(part, sign string, times int) string {
	return part + strings.Repeat(sign+part, times-1)
}

// pick returns one of l.
func pick[T any](r *rand.Rand, l ...T) T {
	return l[r.Intn(len(l))]
}

// someDesign returns a short design, mostly of a mask.
func someDesign(r *rand.Rand) string {
	n := func() int { return r.Intn(9) - 1 }
	number := func() string { return strings.Replace(strconv.Itoa(n()), "-", "_", 1) }
	box := func() string {
		return "rect(" + number() + ", " + number() + ", " + number() + ", " + number() + ")"
	}
	switch r.Intn(9) {
	case 0:
		return "comp(" + box() + ")"
	case 1:
		return box() + " | " + box()
	case 2:
		return "turn(" + box() + ") & comp(" + box() + ")"
	case 3:
		return "shift(" + number() + ", " + number() + ", " + box() + ")"
	case 4:
		return fmt.Sprintf("{6 %d?1:0}", r.Intn(6))
	case 5:
		return pick(r, "{6 T}", "{6 F}", "1", "x", "rect(")
	}
	return box()
}

// someChange returns a line that is mostly a change of one of some pieces.
func someChange(r *rand.Rand, pieces []string) string {
	p := pick(r, append(pieces, "0.1", "1.1", "9.9")...)
	switch r.Intn(16) {
	case 0, 1:
		return "piece"
	case 2, 3, 4, 5:
		return "wax " + p + " " + someDesign(r)
	case 6, 7:
		return "scrape " + p + " " + someDesign(r)
	case 8, 9:
		w, h := 1+r.Intn(8), 1+r.Intn(8)
		var c strings.Builder
		for range w * h {
			c.WriteString(strconv.Itoa(r.Intn(8) * r.Intn(2)))
		}
		return fmt.Sprint("tile ", p, " ", w, " ", h, " ", c.String())
	case 10:
		return "boil " + p
	case 11:
		return pick(r, "list", "boil", "dye "+p, "tile "+p+" 2 2 01", "tile "+p+" 9 1 111111111", "piece "+p, "Boil "+p, "wax "+p, "dye "+p+" 4", "dye "+p+" 00")
	}
	return "dye " + p + " " + strconv.Itoa(r.Intn(4))
}

// someQuestion returns a line that is mostly a question about one of some pieces.
func someQuestion(r *rand.Rand, pieces []string) string {
	p := pick(r, append(pieces, "9.9")...)
	switch r.Intn(6) {
	case 0:
		return fmt.Sprint("colour ", p, " ", r.Intn(9), " ", r.Intn(9))
	case 1:
		return fmt.Sprint("where ", p, " ", r.Intn(9))
	case 2:
		return "waxed " + p
	case 3:
		return fmt.Sprint("word ", p, " ", r.Intn(9), " ", r.Intn(9))
	case 4:
		return pick(r, "list", "list "+p, "waxed", "where "+p, "where "+p+" x", "colour "+p+" 1", "word "+p+" 1 1 1", "words "+p+" 1 1", "boil "+p, "piece")
	}
	return "list"
}

// someBook returns entries of up to four shops in any order, with different Shops and Nos.
func someBook(r *rand.Rand, n int) []works.Entry {
	var l []works.Entry
	met := map[string]bool{}
	var pieces []string
	for len(l) < n {
		e := works.Entry{Time: 1 + r.Intn(2*n), Shop: r.Intn(4), No: 1 + r.Intn(2*n), Line: someChange(r, pieces)}
		if len(l) < n/6 {
			e.Line = "piece"
			e.Time = 1 + r.Intn(n/2)
		}
		name := nameOf(e.Shop, e.No)
		if met[name] {
			continue
		}
		met[name] = true
		l = append(l, e)
		if e.Line == "piece" {
			pieces = append(pieces, name)
		}
	}
	return l
}
