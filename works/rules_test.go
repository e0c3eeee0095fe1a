package works_test

import (
	"bytes"
	"fmt"
	"math/rand"
	"reflect"
	"slices"
	"strings"
	"testing"

	"canting/api"
	"canting/dye"
	"canting/mask"
	"canting/works"
)

// TestNil checks objects that no call made.
func TestNil(t *testing.T) {
	d := newDisk("1 0 1 piece\n")
	w := must(works.Open(d, 0, overlays()[0]))
	copiedDisk, copiedWorks := *d, *w
	for _, x := range []*works.Disk{nil, {}, new(works.Disk), &copiedDisk} {
		if e := x.Append([]byte("x")); e != api.ErrNil {
			t.Errorf("Append: %v", e)
		}
		if e := x.Append(make([]byte, 2_000_000)); e != api.ErrNil {
			t.Errorf("Append of too much: %v", e)
		}
		if e := x.Sync(); e != api.ErrNil {
			t.Errorf("Sync: %v", e)
		}
		for _, n := range []int{0, -1} {
			if e := x.Cut(n); e != api.ErrNil {
				t.Errorf("Cut: %v", e)
			}
		}
		if b, e := x.Read(); len(b) > 0 || e != api.ErrNil {
			t.Errorf("Read: %q, %v", b, e)
		}
		x.Fuse(0)
		x.Crash(0)
		for _, shop := range []int{0, 9} {
			if w, e := works.Open(x, shop, overlays()[0]); w != nil || e != api.ErrNil {
				t.Errorf("Open: %v, %v", w, e)
			}
		}
		if x != nil && x != &copiedDisk && !reflect.DeepEqual(*x, works.Disk{}) {
			t.Errorf("a Disk that was not made has changed")
		}
	}
	for _, x := range []*works.Works{nil, {}, new(works.Works), &copiedWorks} {
		for _, line := range []string{"piece", "list", "", "x"} {
			if s, e := x.Do(line); s != "" || e != api.ErrNil {
				t.Errorf("Do: %q, %v", s, e)
			}
			if s, e := x.Ask(line); s != "" || e != api.ErrNil {
				t.Errorf("Ask: %q, %v", s, e)
			}
		}
		if l := x.Book(); l != nil {
			t.Errorf("Book: %v", l)
		}
		for _, l := range [][]works.Entry{nil, {{}}, many(0, 1, 500, "x")} {
			if n, e := x.Merge(l); n != 0 || e != api.ErrNil {
				t.Errorf("Merge: %d, %v", n, e)
			}
		}
		if s := x.State(); s != "" {
			t.Errorf("State: %q", s)
		}
		for _, y := range []int{0, 9} {
			if c, waxed, e := x.Cell("0.1", 0, y); c != 0 || waxed || e != api.ErrNil {
				t.Errorf("Cell: %d, %v, %v", c, waxed, e)
			}
		}
	}
	// What was made goes on.
	if b := must(d.Read()); string(b) != "1 0 1 piece\n" {
		t.Errorf("%q", b)
	}
	doAll(w, "dye 0.1 0")
}

// TestMemory checks that neither arguments nor results share memory with objects, and that arguments do not change.
func TestMemory(t *testing.T) {
	d := must(works.NewDisk(1000))
	b := []byte("1 0 1 piece\n")
	mustDo(d.Append(b[:5]))
	mustDo(d.Append(b[5:]))
	clear(b)
	got := must(d.Read())
	if string(got) != "1 0 1 piece\n" {
		t.Fatalf("%q", got)
	}
	clear(got[:cap(got)])
	if got := must(d.Read()); string(got) != "1 0 1 piece\n" {
		t.Fatalf("%q", got)
	}
	mustDo(d.Append([]byte("2 0 2 dye 0.1 0\n")))
	got = must(d.Read())
	mustDo(d.Cut(12))
	mustDo(d.Append([]byte("xxxxxxxxxxxxxxxx")))
	if !bytes.HasSuffix(got, []byte("2 0 2 dye 0.1 0\n")) {
		t.Fatalf("%q", got)
	}
	mustDo(d.Cut(12))

	o := overlays()[0]
	w := must(works.Open(d, 0, o))
	if !reflect.DeepEqual(o, overlays()[0]) {
		t.Fatal("Open has changed its overlay")
	}
	o.Dyes[0][0] = 2
	o.Dyes[1] = nil
	doAll(w, "dye 0.1 0", "dye 0.1 1")
	if s := must(w.Ask("word 0.1 0 0")); s != "word 01" {
		t.Fatal(s)
	}
	if c, _, _ := w.Cell("0.1", 0, 0); c != 2 {
		t.Fatal(c)
	}
	state := w.State()

	book := w.Book()
	clear(book[:cap(book)])
	if w.State() != state || w.Book()[0] != (works.Entry{Time: 1, Shop: 0, No: 1, Line: "piece"}) {
		t.Fatal(w.Book())
	}
	l := []works.Entry{{9, 1, 1, "boil 0.1"}, {8, 1, 2, "wax 0.1 {6 T}"}, {9, 1, 1, "x"}}
	was := slices.Clone(l)
	must(w.Merge(l))
	if !slices.Equal(l, was) {
		t.Fatal(l)
	}
	clear(l)
	if got := w.Book()[3:]; !slices.Equal(got, []works.Entry{{8, 1, 2, "wax 0.1 {6 T}"}, {9, 1, 1, "boil 0.1"}}) {
		t.Fatal(got)
	}
}

// TestServeMemory checks the arguments and results of Serve.
func TestServeMemory(t *testing.T) {
	regions := func() []works.Region { return someRegions(rand.New(rand.NewSource(1321)), "abcd") }
	l := regions()
	lines := must(works.Serve("0.1", l))
	if !reflect.DeepEqual(l, regions()) {
		t.Error("Serve has changed its regions")
	}
	again := must(works.Serve("0.1", l))
	clear(lines[:cap(lines)])
	if third := must(works.Serve("0.1", l)); !slices.Equal(again, third) {
		t.Errorf("%q, then %q", again, third)
	}
}

// day is all that can be seen of some work.
func day(seed int64) string {
	r := rand.New(rand.NewSource(seed))
	var b strings.Builder
	o := overlays()[seed%5]
	d := must(works.NewDisk(600 + r.Intn(2000)))
	w := must(works.Open(d, 1, o))
	for range 50 {
		names, _ := w.Ask("list")
		pieces := strings.Fields(names)[1:]
		switch r.Intn(8) {
		case 0:
			n, e := w.Merge(someBook(r, 6))
			fmt.Fprintln(&b, n, e)
		case 1:
			d.Fuse(r.Intn(12))
		case 2:
			d.Crash(r.Intn(50))
			if x, e := works.Open(d, 1, o); e == api.OK {
				w = x
			}
		case 3:
			s, e := w.Ask(someQuestion(r, pieces))
			fmt.Fprintln(&b, s, e)
		default:
			s, e := w.Do(someChange(r, pieces))
			fmt.Fprintln(&b, s, e)
		}
		content, e := d.Read()
		fmt.Fprintln(&b, w.State(), w.Book(), string(content), e)
	}
	return b.String()
}

// TestSame checks that the same calls give the same results.
func TestSame(t *testing.T) {
	for seed := range int64(40) {
		if one, two := day(seed), day(seed); one != two {
			t.Errorf("%s\nthen %s", one, two)
		}
	}
}

// TestNilSlices checks that nil and empty slices are the same as arguments.
func TestNilSlices(t *testing.T) {
	d := newDisk("")
	if e, f := d.Append(nil), d.Append([]byte{}); e != api.OK || f != api.OK {
		t.Errorf("Append: %v, %v", e, f)
	}
	w, e := works.Open(d, 0, dye.Overlay{Colours: 2, Dyes: [][]int{}})
	v, f := works.Open(d, 0, dye.Overlay{Colours: 2})
	if e != api.OK || f != api.OK {
		t.Errorf("Open: %v, %v", e, f)
	}
	for _, x := range []*works.Works{w, v} {
		if n, e := x.Merge([]works.Entry{}); n != 0 || e != api.OK {
			t.Errorf("Merge: %d, %v", n, e)
		}
		if n, e := x.Merge(nil); n != 0 || e != api.OK {
			t.Errorf("Merge: %d, %v", n, e)
		}
	}
	for _, nodes := range [][]mask.Node{nil, {}} {
		if l, e := works.Serve("0.1", []works.Region{{Mask: mask.Mask{Vars: 6, Nodes: nodes, Root: 1}, Word: "a"}}); len(l) != 4 || e != api.OK {
			t.Errorf("Serve: %q, %v", l, e)
		}
	}
	if l, e := works.Serve("0.1", []works.Region{}); len(l) > 0 || e != api.ErrArg {
		t.Errorf("Serve of no regions: %q, %v", l, e)
	}
}

// TestTwo checks that two workshops on one disk know of what they did themselves.
func TestTwo(t *testing.T) {
	o := overlays()[0]
	d := newDisk("")
	v, w := must(works.Open(d, 0, o)), must(works.Open(d, 1, o))
	doAll(v, "piece", "dye 0.1 0")
	doAll(w, "piece")
	checkWorks(t, v, o, []works.Entry{{1, 0, 1, "piece"}, {2, 0, 2, "dye 0.1 0"}})
	checkWorks(t, w, o, []works.Entry{{1, 1, 1, "piece"}})
	checkWorks(t, must(works.Open(d, 2, o)), o, []works.Entry{{1, 0, 1, "piece"}, {2, 0, 2, "dye 0.1 0"}, {1, 1, 1, "piece"}})
}
