package works_test

import (
	"fmt"
	"maps"
	"math/rand"
	"slices"
	"strings"
	"testing"

	"canting/api"
	"canting/design"
	"canting/mask"
	"canting/works"
)

// keys returns the keys of a map, in order.
func keys[T any](m map[string]T) []string {
	return slices.Sorted(maps.Keys(m))
}

func TestP10_3_Day(t *testing.T) {
	r := rand.New(rand.NewSource(1303))
	for n := range 200 {
		o, no := overlays()[n%5], r.Intn(4)
		d := newDisk("")
		w := must(works.Open(d, no, o))
		m := &shop{overlay: o}
		var l []works.Entry
		for range 40 {
			var pieces []string
			for _, c := range m.cloths {
				pieces = append(pieces, c.name)
			}
			line := someChange(r, pieces)
			got, e := w.Do(line)
			want, f := m.do(nameOf(no, len(l)+1), line)
			if got != want || e != f {
				t.Fatalf("after %v: %s: %q, %v, want %q, %v", l, line, got, e, want, f)
			}
			if e == api.OK {
				l = append(l, works.Entry{Time: len(l) + 1, Shop: no, No: len(l) + 1, Line: line})
			}
			question := someQuestion(r, pieces)
			got, e = w.Ask(question)
			want, f = m.ask(question)
			if got != want || e != f {
				t.Fatalf("after %v: %s: %q, %v, want %q, %v", l, question, got, e, want, f)
			}
			if got, e := w.Ask(line); m.isChange(line) && (got != "" || e != api.ErrForm) {
				t.Fatalf("Ask(%q): %q, %v", line, got, e)
			}
		}
		if b := string(must(d.Read())); b != recordsOf(l) {
			t.Fatalf("%q is on the disk, want %q", b, recordsOf(l))
		}
		checkWorks(t, w, o, l)
		d.Crash(0)
		checkWorks(t, must(works.Open(d, no, o)), o, l)
	}
}

// isChange reports whether a line has the form of a change.
func (m *shop) isChange(line string) bool {
	for _, pattern := range []string{`piece`, `(wax|scrape) [^ ]+ .+`, `tile [^ ]+ N N [^ ]+`, `boil [^ ]+`, `dye [^ ]+ N`} {
		if wordsOf(pattern, line) != nil {
			return true
		}
	}
	return false
}

// forms are lines, with whether they are changes or questions of the right form.
func forms() map[string]string {
	l := map[string]string{
		"piece": "change", "wax 0.1 x": "change", "wax 0.1 x y z": "change", "scrape p e": "change", "tile 0.1 0 9 x": "change", "tile ? 999999999 0 001": "change", "boil 0.1": "change", "boil piece": "change", "dye 0.1 0": "change", "dye 0.1 999999999": "change",
		"list": "question", "colour 0.1 0 0": "question", "colour x 999999999 8": "question", "where 0.1 0": "question", "where where 10": "question", "waxed 0.1": "question", "word 0.1 0 0": "question", "word word 9 9": "question",
	}
	for _, bad := range []string{
		"", " ", "  ", "x", "0.1", "pieces", "Piece", "PIECE", "piec", "piece 0.1", "piece ", " piece", "piece\n", "\npiece", "pie ce", "piece\x00", "\"piece\"",
		"wax", "wax 0.1", "wax 0.1 ", "wax  0.1 x", "wax 0.1  x", "wax 0.1 x  y", "wax 0.1 x ", "wax 0.1 x\ty", "wax 0.1 x\ny", "wax 0.1 \x7f", "wax 0.1 é", "wax 0.1\tx", "scrape", "scrape 0.1", "scrape 0.1 x  y",
		"tile", "tile 0.1", "tile 0.1 1", "tile 0.1 1 1", "tile 0.1 1 1 1 1", "tile 0.1 x 1 1", "tile 0.1 1 x 1", "tile 0.1 01 1 1", "tile 0.1 1 01 1", "tile 0.1 -1 1 1", "tile 0.1 1 +1 1", "tile 0.1 1000000000 1 1", "tile 0.1 1 1000000000 1", "tile 0.1 1 1 0 ", "tile 0.1 1.0 1 1",
		"boil", "boil 0.1 0", "boil  0.1", "boil 0.1 ", "dye", "dye 0.1", "dye 0.1 0 0", "dye 0.1 x", "dye 0.1 00", "dye 0.1 -0", "dye 0.1 +0", "dye 0.1 -1", "dye 0.1 a", "dye 0.1 1000000000", "dye 0.1 4294967296", "dye 0.1 18446744073709551616", "dye 0.1 1_0", "dye 0.1 0x1", "dye 0.1 0 ",
		"list 0.1", "list ", "lists", "colour", "colour 0.1", "colour 0.1 0", "colour 0.1 0 0 0", "colour 0.1 x 0", "colour 0.1 0 x", "colour 0.1 00 0", "colour 0.1 0 00", "colour 0.1 -1 0", "colour 0.1 1000000000 0", "color 0.1 0 0",
		"where", "where 0.1", "where 0.1 0 0", "where 0.1 x", "where 0.1 00", "where 0.1 1000000000", "waxed", "waxed 0.1 0", "waxed 0.1 ", "word", "word 0.1", "word 0.1 0", "word 0.1 0 0 0", "word 0.1 x 0", "word 0.1 0 01",
	} {
		l[bad] = "no command"
	}
	return l
}

// TestP10_3_Forms checks which lines are changes, and which are questions. Without pieces the right ones are answered by ErrNone, but for two.
func TestP10_3_Forms(t *testing.T) {
	all := forms()
	for _, line := range keys(all) {
		w := newWorks(0, overlays()[0])
		did, asked := api.ErrForm, api.ErrForm
		switch {
		case line == "piece":
			did = api.OK
		case line == "list":
			asked = api.OK
		case all[line] == "change":
			did = api.ErrNone
		case all[line] == "question":
			asked = api.ErrNone
		}
		if s, e := w.Ask(line); e != asked || (e != api.OK && s != "") {
			t.Errorf("Ask(%q): %q, %v, want %v", line, s, e, asked)
		}
		if s, e := w.Do(line); e != did || (e != api.OK && s != "") {
			t.Errorf("Do(%q): %q, %v, want %v", line, s, e, did)
		}
		if n := len(w.Book()); n > 0 && line != "piece" {
			t.Errorf("Do(%q): the book has %d entries", line, n)
		}
	}
}

func TestP10_3_LongLines(t *testing.T) {
	w := newWorks(0, overlays()[0])
	doAll(w, "piece")
	for length, want := range map[int]api.Errno{999: api.OK, 1000: api.OK, 1001: api.ErrForm, 5000: api.ErrForm, 100000: api.ErrForm} {
		line := "wax 0.1 rect(0, 0, 3, 7)"
		brackets := (length - len(line)) / 2
		line = "wax 0.1 " + deep("(", brackets, "rect(0, 0, 3, 7)", ")")
		if len(line) < length {
			line = strings.Replace(line, "0, 3", "0, 10", 1)
		}
		if len(line) != length {
			t.Fatalf("%d bytes", len(line))
		}
		if _, e := w.Do(line); e != want {
			t.Errorf("%d bytes: %v, want %v", length, e, want)
		}
	}
	if s, e := w.Ask("waxed " + strings.Repeat("x", 994)); s != "" || e != api.ErrNone {
		t.Errorf("a question of 1000 bytes: %q, %v", s, e)
	}
	if s, e := w.Ask("waxed " + strings.Repeat("x", 995)); s != "" || e != api.ErrForm {
		t.Errorf("a question of 1001 bytes: %q, %v", s, e)
	}
}

// TestP10_3_Designs checks waxing and scraping with designs whose cells are known.
func TestP10_3_Designs(t *testing.T) {
	all := drawings()
	for _, text := range keys(all) {
		w := newWorks(2, overlays()[0])
		doAll(w, "piece")
		n := 0
		for y := range 8 {
			for x := range 8 {
				if all[text](x, y) {
					n++
				}
			}
		}
		expect := func(line string, want string) {
			t.Helper()
			if s, e := w.Do(line); s != want || e != api.OK {
				t.Errorf("%s: %q, %v, want %q", line, s, e, want)
			}
		}
		expect("wax 2.1 "+text, fmt.Sprint("wax ", n))
		expect("wax 2.1 "+text, "wax 0")
		checkWaxed(t, w, "2.1", all[text])
		expect("wax 2.1 {6 T}", fmt.Sprint("wax ", 64-n))
		expect("scrape 2.1 "+text, fmt.Sprint("scrape ", n))
		expect("scrape 2.1 "+text, "scrape 0")
		checkWaxed(t, w, "2.1", func(x, y int) bool { return !all[text](x, y) })
		expect("boil 2.1", fmt.Sprint("boil ", 64-n))
		expect("boil 2.1", "boil 0")
		checkWaxed(t, w, "2.1", func(x, y int) bool { return false })
	}
}

func checkWaxed(t *testing.T, w *works.Works, piece string, want func(x, y int) bool) {
	t.Helper()
	for y := range 8 {
		for x := range 8 {
			if _, waxed, e := w.Cell(piece, x, y); waxed != want(x, y) || e != api.OK {
				t.Fatalf("cell (%d, %d): %v, %v, want %v", x, y, waxed, e, want(x, y))
			}
		}
	}
}

func TestP10_3_WrongDesigns(t *testing.T) {
	w := newWorks(0, overlays()[0])
	doAll(w, "piece")
	state := w.State()
	all := wrong()
	for _, text := range keys(all) {
		for _, word := range []string{"wax", "scrape"} {
			if s, e := w.Do(word + " 0.1 " + text); s != "" || e != all[text] {
				t.Errorf("%s 0.1 %s: %q, %v, want %v", word, text, s, e, all[text])
			}
			// That there is no such piece comes first.
			if s, e := w.Do(word + " 0.2 " + text); s != "" || e != api.ErrNone {
				t.Errorf("%s 0.2 %s: %q, %v", word, text, s, e)
			}
		}
	}
	if len(w.Book()) != 1 || w.State() != state {
		t.Errorf("Book %v", w.Book())
	}
}

// loops returns a design that makes so many steps.
func loops(t *testing.T, steps int) string {
	for turns := range 50 {
		text := func(n int) string {
			return fmt.Sprint("let rec f n = if n < 1 then {6 0?1:0} else f (n - 1) in ", deep("turn(", turns, fmt.Sprint("f ", n), ")"))
		}
		stepsOf := func(n int) int {
			_, made, e := design.Run(must(design.Parse(text(n))), 10000)
			if e != api.OK {
				t.Fatal(e)
			}
			return made
		}
		first, each := stepsOf(0), stepsOf(1)-stepsOf(0)
		if n := (steps - first) / each; stepsOf(n) == steps {
			return text(n)
		}
	}
	t.Fatalf("no design with %d steps", steps)
	return ""
}

func TestP10_3_Fuel(t *testing.T) {
	w := newWorks(0, overlays()[0])
	doAll(w, "piece")
	for steps, want := range map[int]api.Errno{1: api.OK, 1999: api.OK, 2000: api.OK, 2001: api.ErrFuel, 2002: api.ErrFuel, 4000: api.ErrFuel} {
		text := "turn({6 0?1:0})"
		if steps > 1 {
			text = loops(t, steps)
		}
		if _, e := w.Do("wax 0.1 " + text); e != want {
			t.Errorf("%d steps: %v, want %v", steps, e, want)
		}
	}
}

func TestP10_3_Tile(t *testing.T) {
	w := newWorks(0, overlays()[0])
	doAll(w, "piece")
	for line, want := range map[string]api.Errno{
		"tile 0.1 1 1 0": api.OK, "tile 0.1 1 1 7": api.OK, "tile 0.1 8 8 " + strings.Repeat("01", 32): api.OK, "tile 0.1 1 8 01234567": api.OK, "tile 0.1 8 1 01234567": api.OK,
		"tile 0.1 1 1 8": api.ErrArg, "tile 0.1 1 1 9": api.ErrArg, "tile 0.1 1 1 a": api.ErrArg, "tile 0.1 1 1 /": api.ErrArg, "tile 0.1 1 1 -": api.ErrArg, "tile 0.1 1 1 ~": api.ErrArg, "tile 0.1 2 2 000x": api.ErrArg, "tile 0.1 2 2 8000": api.ErrArg,
		"tile 0.1 0 1 0": api.ErrArg, "tile 0.1 1 0 0": api.ErrArg, "tile 0.1 0 0 0": api.ErrArg, "tile 0.1 9 1 000000000": api.ErrArg, "tile 0.1 1 9 000000000": api.ErrArg, "tile 0.1 2 2 000": api.ErrArg, "tile 0.1 2 2 00000": api.ErrArg, "tile 0.1 1 1 00": api.ErrArg,
		"tile 0.1 999999999 999999999 0": api.ErrArg, "tile 0.1 8 8 " + strings.Repeat("0", 900): api.ErrArg, "tile 0.1 16 4 " + strings.Repeat("0", 64): api.ErrArg,
		"tile 0.2 1 1 8": api.ErrNone, "tile 0.2 0 1 0": api.ErrNone, "tile 1 1 1 0": api.ErrNone,
	} {
		if _, e := w.Do(line); e != want {
			t.Errorf("%s: %v, want %v", line, e, want)
		}
	}
	w = newWorks(0, overlays()[0])
	doAll(w, "piece", "tile 0.1 3 2 010002")
	checkWaxed(t, w, "0.1", func(x, y int) bool { return x%3 == 1 && y%2 == 0 || x%3 == 2 && y%2 == 1 })
}

// TestP10_3_Names checks which words are names of pieces.
func TestP10_3_Names(t *testing.T) {
	w := newWorks(1, overlays()[0], works.Entry{Time: 1, Shop: 2, No: most, Line: "piece"}, works.Entry{Time: 2, Shop: 0, No: 12, Line: "piece"})
	if s, e := w.Do("piece"); s != "piece 1.1" || e != api.OK {
		t.Fatalf("%q, %v", s, e)
	}
	if s, e := w.Ask("list"); s != "list 2.1099511627776 0.12 1.1" || e != api.OK {
		t.Errorf("%q, %v", s, e)
	}
	for _, name := range []string{"2.1099511627776", "0.12", "1.1"} {
		if s, e := w.Do("dye " + name + " 0"); s != "dye 64" || e != api.OK {
			t.Errorf("%s: %q, %v", name, s, e)
		}
	}
	for _, name := range []string{"1.2", "0.1", "0.012", "00.12", "1.01", "1,1", "1.1.", "1", "1.", ".1", "11", "1.1a", "x", "+1.1", "0.13", "2.12", "piece", "1.1099511627776"} {
		if s, e := w.Do("dye " + name + " 0"); s != "" || e != api.ErrNone {
			t.Errorf("%s: %q, %v", name, s, e)
		}
		if _, _, e := w.Cell(name, 0, 0); e != api.ErrNone {
			t.Errorf("Cell of %s: %v", name, e)
		}
	}
}

func TestP10_3_Dyes(t *testing.T) {
	for _, o := range overlays() {
		w := newWorks(0, o)
		doAll(w, "piece", "wax 0.1 rect(0, 0, 1, 7)")
		for i, colours := range o.Dyes {
			was, _, _ := w.Cell("0.1", 7, 7)
			want := "dye 48"
			if colours[was] == was {
				want = "dye 0"
			}
			if s, e := w.Do(fmt.Sprint("dye 0.1 ", i)); s != want || e != api.OK {
				t.Errorf("%v: dye %d of colour %d: %q, %v", o, i, was, s, e)
			}
			if c, _, _ := w.Cell("0.1", 7, 7); c != colours[was] {
				t.Errorf("%v: dye %d of colour %d: %d", o, i, was, c)
			}
			if c, _, _ := w.Cell("0.1", 1, 7); c != 0 {
				t.Errorf("%v: dye %d of a waxed cell: %d", o, i, c)
			}
		}
		for _, i := range []int{len(o.Dyes), 4, 5, 9, 10, 11, 100, 999999999} {
			if s, e := w.Do(fmt.Sprint("dye 0.1 ", i)); s != "" || e != api.ErrArg {
				t.Errorf("%v: dye %d: %q, %v", o, i, s, e)
			}
			if s, e := w.Do(fmt.Sprint("dye 0.2 ", i)); s != "" || e != api.ErrNone {
				t.Errorf("%v: dye %d without piece: %q, %v", o, i, s, e)
			}
		}
	}
}

func TestP10_3_Questions(t *testing.T) {
	w := newWorks(0, overlays()[0])
	doAll(w, "piece", "dye 0.1 0", "wax 0.1 rect(2, 3, 2, 3)", "dye 0.1 1", "scrape 0.1 rect(2, 3, 3, 3)")
	for line, want := range map[string]string{
		"colour 0.1 2 3": "colour 1", "colour 0.1 3 2": "colour 2", "word 0.1 2 3": "word 0w1b", "word 0.1 3 3": "word 01b", "word 0.1 3 2": "word 01", "waxed 0.1": "waxed 6 F", "where 0.1 0": "where 6 F", "where 0.1 7": "where 6 F", "list": "list 0.1",
		"where 0.1 1": "where " + must(mask.Text(must(mask.Rect(3, 2, 3, 2, 3)))), "where 0.1 2": "where " + must(mask.Text(must(mask.Not(must(mask.Rect(3, 2, 3, 2, 3)))))),
	} {
		if s, e := w.Ask(line); s != want || e != api.OK {
			t.Errorf("%s: %q, %v, want %q", line, s, e, want)
		}
	}
	for line, want := range map[string]api.Errno{
		"colour 0.1 8 0": api.ErrArg, "colour 0.1 0 8": api.ErrArg, "colour 0.1 999999999 999999999": api.ErrArg, "word 0.1 8 0": api.ErrArg, "word 0.1 0 8": api.ErrArg, "where 0.1 8": api.ErrArg, "where 0.1 999999999": api.ErrArg,
		"colour 0.2 8 0": api.ErrNone, "colour 0.2 0 0": api.ErrNone, "word 0.2 0 8": api.ErrNone, "where 0.2 8": api.ErrNone, "waxed 0.2": api.ErrNone,
	} {
		if s, e := w.Ask(line); s != "" || e != want {
			t.Errorf("%s: %q, %v, want %v", line, s, e, want)
		}
	}
	if s, e := newWorks(0, overlays()[0]).Ask("list"); s != "list" || e != api.OK {
		t.Errorf("list without pieces: %q, %v", s, e)
	}
	bare := newWorks(0, overlays()[0])
	doAll(bare, "piece")
	if s, e := bare.Ask("word 0.1 0 0"); s != "word" || e != api.OK {
		t.Errorf("an empty word: %q, %v", s, e)
	}
}

func TestP10_3_SixteenPieces(t *testing.T) {
	w := newWorks(3, overlays()[0])
	for n := range 16 {
		if s, e := w.Do("piece"); s != fmt.Sprint("piece 3.", n+1) || e != api.OK {
			t.Fatalf("%q, %v", s, e)
		}
	}
	if s, e := w.Do("piece"); s != "" || e != api.ErrFull {
		t.Errorf("a piece more: %q, %v", s, e)
	}
	if s, e := w.Do("dye 3.16 0"); s != "dye 64" || e != api.OK {
		t.Errorf("%q, %v", s, e)
	}
	// An earlier piece makes the last one void, and all that is done to it.
	if n, e := w.Merge([]works.Entry{{Time: 1, Shop: 0, No: 5, Line: "piece"}}); n != 1 || e != api.OK {
		t.Fatal(n, e)
	}
	if s, _ := w.Ask("list"); s != "list 0.5 3.1 3.2 3.3 3.4 3.5 3.6 3.7 3.8 3.9 3.10 3.11 3.12 3.13 3.14 3.15" {
		t.Error(s)
	}
	if s, e := w.Do("dye 3.16 0"); s != "" || e != api.ErrNone {
		t.Errorf("%q, %v", s, e)
	}
}

// TestP10_3_Numbers checks the Time and the No of new entries.
func TestP10_3_Numbers(t *testing.T) {
	o := overlays()[0]
	for _, x := range []struct {
		book     []works.Entry
		time, no int
	}{
		{nil, 1, 1},
		{[]works.Entry{{Time: 5, Shop: 1, No: 9, Line: "x"}}, 6, 10},
		{[]works.Entry{{Time: 5, Shop: 0, No: 9, Line: "x"}}, 6, 1},
		{[]works.Entry{{Time: 5, Shop: 1, No: 9, Line: "x"}, {Time: 6, Shop: 1, No: 4, Line: "x"}, {Time: 3, Shop: 2, No: 20, Line: "x"}}, 7, 10},
		{[]works.Entry{{Time: 7, Shop: 3, No: 1, Line: "x"}, {Time: 8, Shop: 0, No: 2, Line: "x"}, {Time: 2, Shop: 1, No: 3, Line: "x"}}, 9, 4},
		{[]works.Entry{{Time: most - 1, Shop: 0, No: most, Line: "x"}, {Time: 2, Shop: 1, No: most - 1, Line: "x"}}, most, most},
	} {
		w := newWorks(1, o, x.book...)
		doAll(w, "piece")
		want := append(slices.Clone(x.book), works.Entry{Time: x.time, Shop: 1, No: x.no, Line: "piece"})
		checkWorks(t, w, o, want)
	}
	for _, full := range []works.Entry{{Time: most, Shop: 0, No: 1, Line: "x"}, {Time: 1, Shop: 1, No: most, Line: "x"}} {
		w := newWorks(1, o, full)
		for line, want := range map[string]api.Errno{"piece": api.ErrFull, "boil 0.1": api.ErrFull, "wax 0.1 (": api.ErrFull, "x": api.ErrForm, "": api.ErrForm, "list": api.ErrForm} {
			if s, e := w.Do(line); s != "" || e != want {
				t.Errorf("with %v: %s: %q, %v, want %v", full, line, s, e, want)
			}
		}
		checkWorks(t, w, o, []works.Entry{full})
	}
}

// TestP10_3_Full checks books of 400 entries.
func TestP10_3_Full(t *testing.T) {
	d := must(works.NewDisk(100000))
	w := must(works.Open(d, 0, overlays()[0]))
	doAll(w, "piece")
	for range 399 {
		doAll(w, "dye 0.1 0")
	}
	for line, want := range map[string]api.Errno{"dye 0.1 0": api.ErrFull, "piece": api.ErrFull, "dye 9.9 0": api.ErrFull, "dye 0.1 9": api.ErrFull, "wax 0.1 1": api.ErrFull, "dye": api.ErrForm} {
		if s, e := w.Do(line); s != "" || e != want {
			t.Errorf("%s: %q, %v, want %v", line, s, e, want)
		}
	}
	if len(w.Book()) != 400 {
		t.Errorf("%d entries", len(w.Book()))
	}
	if s, e := w.Ask("word 0.1 0 0"); s != "word "+strings.Repeat("0", 399) || e != api.OK {
		t.Errorf("%q, %v", s, e)
	}
}

// TestP10_3_FullDisk checks that a change whose record has no room leaves all as it was.
func TestP10_3_FullDisk(t *testing.T) {
	for room := range 30 {
		d := must(works.NewDisk(12 + room + 1))
		w := must(works.Open(d, 0, overlays()[0]))
		doAll(w, "piece")
		state := w.State()
		line := "dye 0.1 0" // its record is "2 0 2 dye 0.1 0\n"
		want := api.ErrFull
		if room+1 >= 16 {
			want = api.OK
		}
		d.Fuse(0)
		if want == api.ErrFull {
			if s, e := w.Do(line); s != "" || e != want {
				t.Errorf("room for %d: %q, %v", room, s, e)
			}
			if w.State() != state || len(w.Book()) != 1 {
				t.Errorf("room for %d: %v", room, w.Book())
			}
		}
		d.Fuse(-1)
		if s, e := w.Do(line); (s == "dye 64") != (want == api.OK) || e != want {
			t.Errorf("room for %d: %q, %v", room, s, e)
		}
		// Less may still fit, and mistakes are found before.
		if _, e := w.Do("dye 0.1 5"); e != api.ErrArg {
			t.Errorf("room for %d: %v", room, e)
		}
	}
}
