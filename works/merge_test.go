package works_test

import (
	"fmt"
	"math"
	"math/rand"
	"slices"
	"strings"
	"testing"

	"canting/api"
	"canting/works"
)

// freshOf follows the definition of new entries.
func freshOf(book, l []works.Entry) []works.Entry {
	var out []works.Entry
	for _, e := range l {
		same := func(f works.Entry) bool { return f.Shop == e.Shop && f.No == e.No }
		if !slices.ContainsFunc(book, same) && !slices.ContainsFunc(out, same) {
			out = append(out, e)
		}
	}
	return out
}

func TestP10_4_Merge(t *testing.T) {
	r := rand.New(rand.NewSource(1305))
	for n := range 300 {
		o := overlays()[n%5]
		all := someBook(r, 30)
		known := 6 + r.Intn(6)
		d := newDisk(recordsOf(all[:known]))
		w := must(works.Open(d, r.Intn(4), o))
		book, content := slices.Clone(all[:known]), recordsOf(all[:known])
		for range 4 {
			// Any of them, some of them twice, and others with a Shop and No that there are.
			l := slices.Clone(all[r.Intn(10):])
			r.Shuffle(len(l), func(i, j int) { l[i], l[j] = l[j], l[i] })
			l = l[:r.Intn(len(l))]
			for range r.Intn(4) {
				e := pick(r, all...)
				e.Time, e.Line = 1+r.Intn(60), pick(r, e.Line, "piece", "x")
				l = slices.Insert(l, r.Intn(len(l)+1), e)
			}
			added := freshOf(book, l)
			if n, e := w.Merge(l); n != len(added) || e != api.OK {
				t.Fatalf("Merge of %v into %v: %d, %v, want %d", l, book, n, e, len(added))
			}
			book = append(book, added...)
			content += recordsOf(added)
			if b := string(must(d.Read())); b != content {
				t.Fatalf("%q is on the disk, want %q", b, content)
			}
			checkWorks(t, w, o, book)
		}
		d.Crash(0)
		checkWorks(t, must(works.Open(d, 0, o)), o, book)
	}
}

// badEntries are not valid, by what is wrong with them.
func badEntries() map[string]works.Entry {
	return map[string]works.Entry{
		"nothing":        {},
		"Time 0":         {0, 0, 1, "piece"},
		"Time -1":        {-1, 0, 1, "piece"},
		"Time above":     {most + 1, 0, 1, "piece"},
		"far below":      {math.MinInt, 0, 1, "piece"},
		"far above":      {math.MaxInt, 0, 1, "piece"},
		"Shop -1":        {1, -1, 1, "piece"},
		"Shop 4":         {1, 4, 1, "piece"},
		"Shop far":       {1, math.MaxInt, 1, "piece"},
		"No 0":           {1, 0, 0, "piece"},
		"No -1":          {1, 0, -1, "piece"},
		"No above":       {1, 0, most + 1, "piece"},
		"No far":         {1, 0, math.MaxInt, "piece"},
		"no line":        {1, 0, 1, ""},
		"a blank":        {1, 0, 1, " "},
		"a blank before": {1, 0, 1, " piece"},
		"a blank behind": {1, 0, 1, "piece "},
		"two blanks":     {1, 0, 1, "boil  0.1"},
		"a line feed":    {1, 0, 1, "piece\n"},
		"a record":       {1, 0, 1, "piece\n1 0 2 piece"},
		"a tab":          {1, 0, 1, "boil\t0.1"},
		"byte 127":       {1, 0, 1, "piece\x7f"},
		"byte 31":        {1, 0, 1, "\x1fpiece"},
		"byte 128":       {1, 0, 1, "piece\x80"},
		"a rune":         {1, 0, 1, "pièce"},
		"1001 bytes":     {1, 0, 1, strings.Repeat("x", 1001)},
	}
}

func TestP10_4_BadEntries(t *testing.T) {
	o := overlays()[0]
	known := works.Entry{Time: 1, Shop: 0, No: 1, Line: "piece"}
	good := works.Entry{Time: 9, Shop: 1, No: 1, Line: "piece"}
	all := badEntries()
	for _, what := range keys(all) {
		d := newDisk(recordOf(known))
		w := must(works.Open(d, 0, o))
		for _, l := range [][]works.Entry{{all[what]}, {good, all[what]}, {all[what], good}, {good, good, known, all[what]}, slices.Repeat([]works.Entry{all[what]}, 500)} {
			if n, e := w.Merge(l); n != 0 || e != api.ErrArg {
				t.Errorf("%s: %d, %v", what, n, e)
			}
		}
		checkWorks(t, w, o, []works.Entry{known})
		if b := string(must(d.Read())); b != recordOf(known) {
			t.Errorf("%s: %q is on the disk", what, b)
		}
	}
	// Entries that are known must be valid too.
	w := newWorks(0, o, known)
	if n, e := w.Merge([]works.Entry{{Time: 0, Shop: 0, No: 1, Line: "piece"}}); n != 0 || e != api.ErrArg {
		t.Errorf("a known Shop and No: %d, %v", n, e)
	}
}

// TestP10_4_Greatest checks entries at the limits.
func TestP10_4_Greatest(t *testing.T) {
	o := overlays()[0]
	w := newWorks(0, o)
	l := []works.Entry{{most, 3, most, "piece"}, {1, 0, 1, strings.Repeat("x", 1000)}, {1, 0, 2, "~"}, {most, 0, 3, "dye 3.1099511627776 0"}, {most, 3, 7, "boil 3.1099511627776"}}
	if n, e := w.Merge(l); n != 5 || e != api.OK {
		t.Fatalf("%d, %v", n, e)
	}
	checkWorks(t, w, o, l)
	if s := w.State(); s != "3.1099511627776 "+strings.Repeat("0", 64)+" "+strings.Repeat("b", 64)+"\n" {
		t.Error(s)
	}
}

// many returns so many entries of a shop, from a No on.
func many(shop, no, count int, line string) []works.Entry {
	var l []works.Entry
	for n := range count {
		l = append(l, works.Entry{Time: 1 + n, Shop: shop, No: no + n, Line: line})
	}
	return l
}

func TestP10_4_Full(t *testing.T) {
	o := overlays()[0]
	book := many(0, 1, 398, "piece")
	w := newWorks(1, o, book...)
	for _, x := range []struct {
		l    []works.Entry
		n    int
		want api.Errno
	}{
		{many(1, 1, 3, "x"), 0, api.ErrFull},
		{slices.Concat(book, many(1, 1, 3, "x")), 0, api.ErrFull},
		{slices.Concat(many(1, 1, 3, "x"), []works.Entry{{}}), 0, api.ErrArg},
		{slices.Concat(book, book), 0, api.OK},
		{slices.Concat(many(1, 1, 2, "x"), book, many(1, 1, 2, "y")), 2, api.OK},
		{many(1, 1, 2, "x"), 0, api.OK},
		{many(1, 3, 1, "x"), 0, api.ErrFull},
		{nil, 0, api.OK},
	} {
		if n, e := w.Merge(x.l); n != x.n || e != x.want {
			t.Errorf("Merge of %d: %d, %v, want %d, %v", len(x.l), n, e, x.n, x.want)
		}
	}
	checkWorks(t, w, o, slices.Concat(book, many(1, 1, 2, "x")))
	// In one call.
	w = newWorks(0, o)
	if n, e := w.Merge(many(2, 1, 401, "x")); n != 0 || e != api.ErrFull {
		t.Errorf("%d, %v", n, e)
	}
	if n, e := w.Merge(many(2, 1, 400, "x")); n != 400 || e != api.OK {
		t.Errorf("%d, %v", n, e)
	}
}

func TestP10_4_FullDisk(t *testing.T) {
	o := overlays()[0]
	l := []works.Entry{{10, 1, 1, "piece"}, {11, 1, 2, "boil 1.1"}, {12, 1, 3, "x"}}
	length := len(recordsOf(l))
	for size := 1; size < length+5; size++ {
		d := must(works.NewDisk(size))
		w := must(works.Open(d, 0, o))
		n, e := w.Merge(slices.Concat(l, l))
		content := string(must(d.Read()))
		if size < length && (n != 0 || e != api.ErrFull || content != "" || len(w.Book()) > 0) {
			t.Errorf("size %d: %d, %v, %q, %v", size, n, e, content, w.Book())
		}
		if size >= length && (n != 3 || e != api.OK || content != recordsOf(l)) {
			t.Errorf("size %d: %d, %v, %q", size, n, e, content)
		}
	}
	// That there is no room is found before the power is needed.
	d := must(works.NewDisk(length - 1))
	w := must(works.Open(d, 0, o))
	d.Fuse(0)
	d.Sync()
	if n, e := w.Merge(l); n != 0 || e != api.ErrFull {
		t.Errorf("without power: %d, %v", n, e)
	}
	if n, e := w.Merge(l[:2]); n != 0 || e != api.ErrPower {
		t.Errorf("without power: %d, %v", n, e)
	}
	if n, e := w.Merge(l); n != 0 || e != api.ErrState {
		t.Errorf("after a power loss: %d, %v", n, e)
	}
}

// TestP10_4_Operations checks how many operations Merge and Do need.
func TestP10_4_Operations(t *testing.T) {
	o := overlays()[0]
	l := many(1, 1, 5, "piece")
	for fuse := range 10 {
		for want, act := range map[int]func(w *works.Works) api.Errno{
			6: func(w *works.Works) api.Errno { _, e := w.Merge(l); return e },
			1: func(w *works.Works) api.Errno { _, e := w.Merge(nil); return e },
			2: func(w *works.Works) api.Errno { _, e := w.Do("piece"); return e },
		} {
			d := newDisk("")
			w := must(works.Open(d, 0, o))
			d.Fuse(fuse)
			e := act(w)
			if fuse < want && (e != api.ErrPower || len(w.Book()) > 0 || w.State() != "") || fuse >= want && e != api.OK {
				t.Errorf("%d operations of %d: %v, %v", fuse, want, e, w.Book())
			}
		}
	}
}

// TestP10_4_Sync checks that Merge makes safe what is on the disk also if nothing is new.
func TestP10_4_Sync(t *testing.T) {
	d := newDisk("")
	w := must(works.Open(d, 0, overlays()[0]))
	mustDo(d.Append([]byte("1 0 1 piece\n")))
	if n, e := w.Merge(nil); n != 0 || e != api.OK {
		t.Fatal(n, e)
	}
	d.Crash(0)
	if b := must(d.Read()); string(b) != "1 0 1 piece\n" {
		t.Errorf("%q", b)
	}
}

func TestP10_4_Book(t *testing.T) {
	o := overlays()[0]
	l := []works.Entry{{2, 1, 1, "a"}, {2, 0, 9, "b"}, {1, 3, 5, "c"}, {2, 1, 3, "d"}, {2, 1, 2, "e"}, {most, 0, 1, "f"}, {1, 3, 4, "g"}, {10, 2, 1, "h"}}
	want := []works.Entry{{1, 3, 4, "g"}, {1, 3, 5, "c"}, {2, 0, 9, "b"}, {2, 1, 1, "a"}, {2, 1, 2, "e"}, {2, 1, 3, "d"}, {10, 2, 1, "h"}, {most, 0, 1, "f"}}
	w := newWorks(0, o)
	if len(w.Book()) > 0 {
		t.Errorf("%v", w.Book())
	}
	for _, e := range l {
		must(w.Merge([]works.Entry{e}))
	}
	if !slices.Equal(w.Book(), want) || !slices.Equal(newWorks(1, o, l...).Book(), want) {
		t.Errorf("%v, want %v", w.Book(), want)
	}
}

func TestP10_4_State(t *testing.T) {
	w := newWorks(0, overlays()[0])
	if w.State() != "" {
		t.Errorf("%q", w.State())
	}
	doAll(w, "piece", "wax 0.1 rect(1, 0, 2, 0)", "dye 0.1 0", "piece", "wax 0.4 rect(0, 7, 0, 7)", "scrape 0.1 rect(2, 0, 7, 7)", "dye 0.1 1")
	want := "0.1 20" + strings.Repeat("2", 62) + " bw" + strings.Repeat("b", 62) + "\n" +
		"0.4 " + strings.Repeat("0", 64) + " " + strings.Repeat("b", 56) + "w" + strings.Repeat("b", 7) + "\n"
	if w.State() != want {
		t.Errorf("%s, want %s", w.State(), want)
	}
}

// TestP10_4_Void checks that entries that are no changes or have errors change nothing.
func TestP10_4_Void(t *testing.T) {
	o := overlays()[0]
	good := []works.Entry{{1, 0, 1, "piece"}, {3, 0, 2, "wax 0.1 rect(0, 0, 1, 7)"}, {5, 0, 3, "dye 0.1 0"}, {7, 1, 1, "piece"}, {9, 2, 1, "dye 1.1 1"}}
	w := newWorks(0, o, good...)
	state := w.State()
	var void []works.Entry
	lines := append(keys(forms()), "dye 1.1 0", "wax 9.9 {6 T}", "dye 0.1 2", "tile 0.1 1 1 9", "wax 0.1 1", "scrape 0.1 (", "wax 0.1 rect(1, 2)", "colour 0.1 1 1", "hello")
	for n, line := range lines {
		if isLine(line) && line != "piece" && line != "boil 0.1" && line != "dye 0.1 0" {
			void = append(void, works.Entry{Time: 1 + n%7, Shop: 3, No: 1 + n, Line: line})
		}
	}
	// In the order of the book there is no piece 1.1 before Time 7 of Shop 1.
	if n, e := w.Merge(void); n != len(void) || e != api.OK {
		t.Fatal(n, e)
	}
	for _, e := range void {
		if e.Time == 7 && e.Line == "dye 1.1 0" {
			t.Fatal("it is not void")
		}
	}
	if w.State() != state {
		t.Errorf("%s, want %s", w.State(), state)
	}
	checkWorks(t, w, o, slices.Concat(good, void))
}

func TestP10_5_Cell(t *testing.T) {
	r := rand.New(rand.NewSource(1306))
	for n := range 40 {
		o := overlays()[n%5]
		l := someBook(r, 40)
		w, m := newWorks(0, o, l...), shopOf(o, l)
		for _, c := range m.cloths {
			for y := range 8 {
				for x := range 8 {
					colour, waxed, e := w.Cell(c.name, x, y)
					if want := c.squares[y][x]; colour != want.colour || waxed != want.waxed || e != api.OK {
						t.Fatalf("%s (%d, %d): %d, %v, %v, want %v", c.name, x, y, colour, waxed, e, want)
					}
				}
			}
		}
	}
	w := newWorks(0, overlays()[0])
	doAll(w, "piece", "dye 0.1 1", "wax 0.1 {6 T}")
	for _, x := range []int{-1, 8, 9, 64, math.MaxInt, math.MinInt} {
		for _, at := range [][2]int{{x, 0}, {0, x}, {x, x}, {x, 7}} {
			if c, waxed, e := w.Cell("0.1", at[0], at[1]); c != 0 || waxed || e != api.ErrArg {
				t.Errorf("cell %v: %d, %v, %v", at, c, waxed, e)
			}
			if c, waxed, e := w.Cell("0.2", at[0], at[1]); c != 0 || waxed || e != api.ErrNone {
				t.Errorf("cell %v of no piece: %d, %v, %v", at, c, waxed, e)
			}
		}
	}
	for _, name := range []string{"", "0.2", "0", "0.1 ", " 0.1", "0.1\n", strings.Repeat("0.1", 100000)} {
		if c, waxed, e := w.Cell(name, 0, 0); c != 0 || waxed || e != api.ErrNone {
			t.Errorf("%s: %d, %v, %v", fmt.Sprintf("%.20q", name), c, waxed, e)
		}
	}
}
