package works_test

import (
	"fmt"
	"math/rand"
	"slices"
	"strings"
	"testing"

	"canting/api"
	"canting/dye"
	"canting/mask"
	"canting/works"
)

// TestP10_Examples checks the examples of the chapter.
func TestP10_Examples(t *testing.T) {
	w := newWorks(0, overlays()[0])
	check := func(call func(string) (string, api.Errno), line, want string, bad api.Errno) {
		t.Helper()
		if s, e := call(line); s != want || e != bad {
			t.Errorf("%s: %q, %v, want %q, %v", line, s, e, want, bad)
		}
	}
	for _, x := range [][2]string{{"piece", "piece 0.1"}, {"wax 0.1 rect(0, 0, 3, 7)", "wax 32"}, {"dye 0.1 0", "dye 32"}, {"boil 0.1", "boil 32"}, {"dye 0.1 1", "dye 64"}} {
		check(w.Do, x[0], x[1], api.OK)
	}
	for _, x := range [][2]string{{"where 0.1 2", "where 6 T"}, {"word 0.1 0 0", "word w0b1"}, {"word 0.1 4 0", "word 0b1"}} {
		check(w.Ask, x[0], x[1], api.OK)
	}
	check(w.Do, "wax 0.1 1", "", api.ErrType)
	check(w.Do, "wax 0.2 1", "", api.ErrNone)
	check(w.Do, "dye 0.1 2", "", api.ErrArg)
	check(w.Do, "dye 0.1", "", api.ErrForm)
	check(w.Do, "tile 0.1 2 1 01", "tile 32", api.OK)
	checkWaxed(t, w, "0.1", func(x, y int) bool { return x%2 == 1 })
	v := newWorks(1, overlays()[0])
	if n, e := v.Merge(w.Book()); n != 6 || e != api.OK || v.State() != w.State() {
		t.Errorf("%d, %v, %s", n, e, v.State())
	}
	doAll(w, "dye 0.1 0")
	doAll(v, "boil 0.1")
	must(w.Merge(v.Book()))
	must(v.Merge(w.Book()))
	last := []works.Entry{{Time: 7, Shop: 0, No: 7, Line: "dye 0.1 0"}, {Time: 7, Shop: 1, No: 1, Line: "boil 0.1"}}
	if !slices.Equal(w.Book()[6:], last) || !slices.Equal(v.Book()[6:], last) || w.State() != v.State() {
		t.Errorf("%v, %v", w.Book(), v.Book())
	}
	left, right := must(mask.Rect(3, 0, 0, 3, 7)), must(mask.Rect(3, 4, 0, 7, 7))
	lines, e := works.Serve("0.1", []works.Region{{Mask: left, Word: "ab"}, {Mask: right, Word: "b"}})
	want := []string{"boil 0.1", "wax 0.1 {6 0?1:0}", "dye 0.1 0", "boil 0.1", "wax 0.1 {6 F}", "dye 0.1 1", "boil 0.1"}
	if !slices.Equal(lines, want) || e != api.OK {
		t.Errorf("%q, %v", lines, e)
	}
}

// TestP10_7_Convergence lets workshops work and merge for a while.
func TestP10_7_Convergence(t *testing.T) {
	r := rand.New(rand.NewSource(1311))
	for n := range 60 {
		o := overlays()[n%5]
		var l []*works.Works
		for no := range 2 + r.Intn(3) {
			l = append(l, newWorks(no, o))
		}
		for range 60 {
			w := pick(r, l...)
			if r.Intn(6) == 0 {
				book := pick(r, l...).Book()
				r.Shuffle(len(book), func(i, j int) { book[i], book[j] = book[j], book[i] })
				must(w.Merge(book[:r.Intn(len(book)+1)]))
				continue
			}
			names, _ := w.Ask("list")
			w.Do(someChange(r, strings.Fields(names)[1:]))
		}
		var all []works.Entry
		for _, w := range l {
			checkWorks(t, w, o, w.Book())
			all = append(all, freshOf(all, w.Book())...)
		}
		r.Shuffle(len(all), func(i, j int) { all[i], all[j] = all[j], all[i] })
		for len(l) > 1 {
			// In whatever order: each one into the next, and back.
			r.Shuffle(len(l), func(i, j int) { l[i], l[j] = l[j], l[i] })
			must(l[0].Merge(l[1].Book()))
			must(l[1].Merge(l[0].Book()))
			if l[0].State() != l[1].State() || !slices.Equal(l[0].Book(), l[1].Book()) {
				t.Fatalf("%v, %v", l[0].Book(), l[1].Book())
			}
			if n, e := l[0].Merge(l[1].Book()); n != 0 || e != api.OK {
				t.Fatalf("Merge again: %d, %v", n, e)
			}
			l = l[1:]
		}
		checkWorks(t, l[0], o, all)
		checkWorks(t, newWorks(3, o, all...), o, all)
	}
}

// TestP10_7_Order checks that two books give the same in either order.
func TestP10_7_Order(t *testing.T) {
	r := rand.New(rand.NewSource(1312))
	for n := range 100 {
		o := overlays()[n%5]
		all := someBook(r, 40)
		a, b := all[:15+r.Intn(10)], all[r.Intn(15):]
		v, w, u := newWorks(0, o), newWorks(1, o), newWorks(2, o)
		must(v.Merge(a))
		must(v.Merge(b))
		must(w.Merge(b))
		must(w.Merge(a))
		must(w.Merge(b))
		for i := range all {
			must(u.Merge(all[len(all)-1-i:]))
		}
		checkWorks(t, v, o, all)
		for _, x := range []*works.Works{w, u} {
			if x.State() != v.State() || !slices.Equal(x.Book(), v.Book()) {
				t.Fatalf("%v, %v", x.Book(), v.Book())
			}
		}
	}
}

// call is one of a script: a change, or a book to merge.
type call struct {
	line string
	book []works.Entry
}

// run makes a call, and returns the entries that it writes.
func (c call) run(w *works.Works, shop int) ([]works.Entry, api.Errno) {
	was := w.Book()
	if c.line == "" {
		_, e := w.Merge(c.book)
		return freshOf(was, c.book), e
	}
	last := works.Entry{}
	for _, e := range was {
		last.Time = max(last.Time, e.Time)
		if e.Shop == shop {
			last.No = max(last.No, e.No)
		}
	}
	_, e := w.Do(c.line)
	return []works.Entry{{Time: last.Time + 1, Shop: shop, No: last.No + 1, Line: c.line}}, e
}

func script() []call {
	return []call{
		{line: "piece"},
		{line: "wax 2.1 rect(0, 0, 3, 7)"},
		{book: []works.Entry{{1, 0, 1, "piece"}, {3, 0, 2, "dye 0.1 0"}, {4, 1, 1, "dye 2.1 1"}, {1, 0, 1, "piece"}, {9, 3, 1, "scrape 2.1 rect(1, 1, 1, 1)"}}},
		{line: "dye 2.1 0"},
		{book: nil},
		{book: []works.Entry{{1, 0, 1, "piece"}, {5, 3, 2, "piece"}}},
		{line: "boil 0.1"},
	}
}

// lose runs the script until the power goes off after some operations. It returns the disk, the entries of calls that were OK, and those of the one that was not; none if the power has lasted.
func lose(t *testing.T, content string, fuse int) (d *works.Disk, sure, open []works.Entry, lost bool) {
	o := overlays()[0]
	d = newDisk(content)
	sure, _ = entriesOf(content)
	d.Fuse(fuse)
	w, e := works.Open(d, 2, o)
	if e == api.ErrPower {
		return d, sure, nil, true
	}
	for _, c := range script() {
		l, e := c.run(w, 2)
		switch e {
		case api.OK:
			sure = append(sure, l...)
		case api.ErrPower:
			checkAfterLoss(t, w, o, sure)
			return d, sure, l, true
		default:
			t.Fatalf("%v: %v", c, e)
		}
	}
	return d, sure, nil, false
}

// checkAfterLoss checks a workshop that has returned ErrPower.
func checkAfterLoss(t *testing.T, w *works.Works, o dye.Overlay, sure []works.Entry) {
	t.Helper()
	for range 2 {
		for _, line := range []string{"piece", "boil 9.9", "x", "", "wax 2.1 1"} {
			if s, e := w.Do(line); s != "" || e != api.ErrState {
				t.Fatalf("Do(%q) after a power loss: %q, %v", line, s, e)
			}
		}
		for _, l := range [][]works.Entry{nil, w.Book(), {{}}, many(3, 1, 500, "x")} {
			if n, e := w.Merge(l); n != 0 || e != api.ErrState {
				t.Fatalf("Merge after a power loss: %d, %v", n, e)
			}
		}
		checkWorks(t, w, o, sure)
	}
}

func TestP10_8_Crash(t *testing.T) {
	o := overlays()[0]
	for _, content := range []string{"", "1 1 7 piece\n", "1 1 7 piece\n2 1 8 pie", "x"} {
		for fuse := 0; ; fuse++ {
			d, sure, open, lost := lose(t, content, fuse)
			if !lost {
				if fuse < 15 {
					t.Fatalf("the script has only %d operations", fuse)
				}
				break
			}
			for keep := -1; keep <= len(recordsOf(open))+1; keep++ {
				d, sure, open, _ = lose(t, content, fuse)
				d.Crash(keep)
				w := must(works.Open(d, 2, o))
				book := w.Book()
				n := len(book) - len(sure)
				if n < 0 || n > len(open) {
					t.Fatalf("%d operations, %d bytes kept: %v, want %v and a beginning of %v", fuse, keep, book, sure, open)
				}
				checkWorks(t, w, o, slices.Concat(sure, open[:n]))
				if keep < 0 && n > 0 {
					t.Fatalf("%d operations: %v was kept", fuse, open[:n])
				}
				// Work goes on.
				doAll(w, "piece")
				d.Crash(0)
				if again := must(works.Open(d, 2, o)); !slices.Equal(again.Book(), w.Book()) || again.State() != w.State() {
					t.Fatalf("%v, want %v", again.Book(), w.Book())
				}
			}
		}
	}
}

// TestP10_8_Kept checks that all whole records that a crash keeps are found.
func TestP10_8_Kept(t *testing.T) {
	o := overlays()[0]
	l := []works.Entry{{5, 1, 1, "piece"}, {6, 1, 2, "dye 1.1 0"}, {7, 1, 3, "boil 1.1"}}
	for fuse := range 4 {
		length := len(recordsOf(l[:fuse]))
		for keep := range length + 1 {
			d := newDisk("")
			w := must(works.Open(d, 0, o))
			d.Fuse(fuse)
			if n, e := w.Merge(l); n != 0 || e != api.ErrPower {
				t.Fatalf("%d, %v", n, e)
			}
			d.Crash(keep)
			whole := strings.Count(recordsOf(l)[:keep], "\n")
			checkWorks(t, must(works.Open(d, 0, o)), o, l[:whole])
		}
	}
}

// TestP10_8_Again checks power losses while a works is opened after a power loss.
func TestP10_8_Again(t *testing.T) {
	o := overlays()[0]
	for fuse := range 3 {
		for keep := range 20 {
			d := newDisk("1 2 7 piece\n")
			w := must(works.Open(d, 2, o))
			d.Fuse(1)
			if _, e := w.Do("dye 2.7 0"); e != api.ErrPower {
				t.Fatal(e)
			}
			d.Crash(keep)
			d.Fuse(fuse)
			_, e := works.Open(d, 2, o)
			d.Crash(0)
			book := must(works.Open(d, 2, o)).Book()
			if len(book) < 1 || len(book) > 2 || len(book) == 2 != (keep >= len("2 2 8 dye 2.7 0\n")) {
				t.Errorf("%d operations, %d bytes kept: %v, %v", fuse, keep, e, book)
			}
		}
	}
}

// TestP10_8_Alive checks that a works that had no power loss of its own goes on, whatever becomes of the disk.
func TestP10_8_Alive(t *testing.T) {
	d := newDisk("")
	w := must(works.Open(d, 0, overlays()[0]))
	doAll(w, "piece")
	d.Fuse(0)
	if _, e := w.Do("boil 0.2"); e != api.ErrNone { // needs no power
		t.Error(e)
	}
	d.Sync()
	for line, want := range map[string]api.Errno{"list": api.ErrForm, "boil 0.2": api.ErrNone} {
		if _, e := w.Do(line); e != want {
			t.Error(line, e)
		}
	}
	if s, e := w.Ask("list"); s != "list 0.1" || e != api.OK {
		t.Error(s, e)
	}
	d.Crash(0)
	if s, e := w.Do("dye 0.1 0"); s != "dye 64" || e != api.OK {
		t.Error(s, e)
	}
}

func TestP10_9_Cells(t *testing.T) {
	r := rand.New(rand.NewSource(1313))
	tried := 0
	for n := range 60 {
		o := overlays()[n%5]
		w := newWorks(0, o, someBook(r, 60)...)
		names, _ := w.Ask("list")
		for _, piece := range strings.Fields(names)[1:] {
			for range 3 {
				x, y := r.Intn(8), r.Intn(8)
				word := strings.TrimPrefix(strings.TrimPrefix(must(w.Ask(fmt.Sprint("word ", piece, " ", x, " ", y))), "word"), " ")
				colour, waxed, _ := w.Cell(piece, x, y)
				state := 2 * colour
				if waxed {
					state++
				}
				if act := must(dye.Act(o, word)); act[0] != state {
					t.Fatalf("%v: %s is %d, not %d", o, word, act[0], state)
				}
				if short, e := dye.Normal(o, word); e == api.OK {
					tried++
					if act := must(dye.Act(o, short)); act[0] != state {
						t.Fatalf("%v: %s, %s is %d, not %d", o, word, short, act[0], state)
					}
				}
			}
		}
	}
	if tried < 200 {
		t.Errorf("only %d words", tried)
	}
}

// look is what Cell tells of all cells of a piece.
func look(w *works.Works, piece string) (colours [64]int, wax [64]bool) {
	for p := range 64 {
		colours[p], wax[p], _ = w.Cell(piece, p%8, p/8)
	}
	return colours, wax
}

// TestP10_11_Replies checks replies by what Cell and Ask show before and behind a change.
func TestP10_11_Replies(t *testing.T) {
	r := rand.New(rand.NewSource(1314))
	for n := range 60 {
		w := newWorks(0, overlays()[n%5])
		doAll(w, "piece")
		for range 40 {
			colours, wax := look(w, "0.1")
			reply, e := w.Do(strings.Replace(someChange(r, []string{"0.1"}), "1.1", "0.1", 1))
			if e != api.OK || strings.HasPrefix(reply, "piece") {
				continue
			}
			colours2, wax2 := look(w, "0.1")
			dyed, more, less := 0, 0, 0
			for p := range 64 {
				if colours[p] != colours2[p] {
					dyed++
				}
				if wax2[p] && !wax[p] {
					more++
				}
				if wax[p] && !wax2[p] {
					less++
				}
			}
			word, _, _ := strings.Cut(reply, " ")
			want := map[string]int{"wax": more, "tile": more, "scrape": less, "boil": less, "dye": dyed}[word]
			if reply != fmt.Sprint(word, " ", want) || dyed+more+less != want {
				t.Fatalf("%s: %d dyed, %d waxed, %d bare", reply, dyed, more, less)
			}
			if s, _ := w.Ask("waxed 0.1"); word == "boil" && s != "waxed 6 F" {
				t.Fatalf("after boil: %s", s)
			}
		}
	}
}
