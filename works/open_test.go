package works_test

import (
	"fmt"
	"math"
	"math/rand"
	"slices"
	"strings"
	"testing"

	"canting/api"
	"canting/dye"
	"canting/works"
)

// decimal returns the number of decimal digits without leading zeros, if it is at most 2^40.
func decimal(s string) (int, bool) {
	if match(`\A(0|[1-9][0-9]{0,12})\z`, s) == nil {
		return 0, false
	}
	n := numeral(s)
	return n, n <= most
}

// entriesOf follows the definition of records.
func entriesOf(content string) (l []works.Entry, rest string) {
	met := map[string]bool{}
	for {
		found := match(`\A([0-9]+) ([0-9]+) ([0-9]+) ([^\n]*)\n`, content)
		if found == nil {
			return l, content
		}
		time, ok1 := decimal(found[1])
		shop, ok2 := decimal(found[2])
		no, ok3 := decimal(found[3])
		name := nameOf(shop, no)
		if !ok1 || !ok2 || !ok3 || time < 1 || shop > 3 || no < 1 || !isLine(found[4]) || met[name] {
			return l, content
		}
		met[name] = true
		l = append(l, works.Entry{Time: time, Shop: shop, No: no, Line: found[4]})
		content = content[len(found[0]):]
	}
}

// checkOpen opens a disk with some bytes, of which some are safe.
func checkOpen(t *testing.T, content string, o dye.Overlay) {
	t.Helper()
	d := newDisk(content)
	w, e := works.Open(d, 1, o)
	if e != api.OK {
		t.Fatalf("%q: %v", content, e)
	}
	l, rest := entriesOf(content)
	if !slices.Equal(w.Book(), inOrder(l)) {
		t.Fatalf("%q: Book %v, want %v", content, w.Book(), inOrder(l))
	}
	if b := string(must(d.Read())); b != strings.TrimSuffix(content, rest) {
		t.Fatalf("%q: %q is on the disk", content, b)
	}
}

// badRecords are no records.
func badRecords() []string {
	l := []string{
		"", "\n", "\n\n", " ", "x", "1", "1 0", "1 0 1", "1 0 1 ", "1 0 1 piece", "1 0 1 piece\r\n", "1 0 1\n", "1 0 1 \n", "1 0 piece\n", "1 0 piece x\n",
		"0 0 1 piece\n", "1 4 1 piece\n", "1 0 0 piece\n", "1 -1 1 piece\n", "-1 0 1 piece\n", "1 0 -1 piece\n", "01 0 1 piece\n", "1 00 1 piece\n", "1 0 01 piece\n",
		"+1 0 1 piece\n", "1 +0 1 piece\n", "1 -0 1 piece\n", "1 0 +1 piece\n", "1_0 0 1 piece\n", "0x1 0 1 piece\n", "1.0 0 1 piece\n", "a 0 1 piece\n", "1 a 1 piece\n", "1 0 a piece\n",
		" 1 0 1 piece\n", "1  0 1 piece\n", "1 0  1 piece\n", "1 0 1  piece\n", "1 0 1 piece \n", "1 0 1 boil  0.1\n", "1\t0 1 piece\n", "1 0 1\tpiece\n", "1 0 1 pi\tece\n",
		"1 0 1 pi\x00ece\n", "1 0 1 pi\x7fece\n", "1 0 1 pi\x1fece\n", "1 0 1 pi\x80ece\n", "1 0 1 pié\n", "1 0 1 \x00\n", "1,0,1,piece\n", "1 0 1 piece\x00",
		fmt.Sprint(most+1, " 0 1 piece\n"), fmt.Sprint("1 0 ", most+1, " piece\n"), "9223372036854775807 0 1 piece\n", "9223372036854775808 0 1 piece\n", "18446744073709551617 0 1 piece\n", "1 18446744073709551616 1 piece\n", "1 0 18446744073709551617 piece\n",
		"1 0 1 " + strings.Repeat("x", 1001) + "\n", "1 0 1 piece" + strings.Repeat("\x00", 100) + "\n", strings.Repeat("1", 5000) + " 0 1 piece\n",
	}
	return l
}

// goodRecords are records.
func goodRecords() []string {
	return []string{
		"1 0 1 piece\n", "1 3 1 piece\n", fmt.Sprint(most, " 0 1 piece\n"), fmt.Sprint("1 0 ", most, " piece\n"), "10 2 30 x\n", "7 1 7 ~ !\n", "7 1 7 1 0 1 piece\n",
		"1 0 2 list\n", "1 0 2 boil 0.1\n", "1 0 9 " + strings.Repeat("x", 1000) + "\n", "1 0 9 " + strings.Repeat("x ", 499) + "x\n", "2 0 2 wax 0.1 rect(0, 0, 3, 7)\n",
	}
}

func TestP10_2_Records(t *testing.T) {
	o := overlays()[0]
	for _, bad := range badRecords() {
		if l, _ := entriesOf(bad); len(l) > 0 {
			t.Fatalf("%q is a record", bad)
		}
		checkOpen(t, bad, o)
		checkOpen(t, "5 0 5 piece\n"+bad, o)
		checkOpen(t, bad+"5 0 5 piece\n", o)
		checkOpen(t, "5 0 5 piece\n"+bad+"5 0 6 piece\n", o)
	}
	for _, good := range goodRecords() {
		if l, rest := entriesOf(good); len(l) != 1 || rest != "" {
			t.Fatalf("%q is no record", good)
		}
		checkOpen(t, good, o)
		checkOpen(t, good+"3 2 1 piece\n", o)
		checkOpen(t, good+good, o)
		checkOpen(t, good+"x"+good, o)
		for n := range len(good) {
			checkOpen(t, good[:n], o)
			checkOpen(t, "3 2 1 piece\n"+good[:n], o)
		}
	}
	// One Shop and No, at another Time, with another line, and later ones that are new.
	checkOpen(t, "1 0 1 piece\n2 0 2 piece\n3 0 1 x\n4 0 4 piece\n", o)
	checkOpen(t, "2 0 1 piece\n2 1 1 piece\n2 0 2 piece\n1 2 1 piece\n1 2 1 piece\n5 5 5 x\n", o)
}

func TestP10_2_Changed(t *testing.T) {
	r := rand.New(rand.NewSource(1302))
	for range 3000 {
		o := pick(r, overlays()...)
		b := []byte(recordsOf(someBook(r, 6+r.Intn(6))))
		for range r.Intn(3) {
			at := r.Intn(len(b))
			switch r.Intn(4) {
			case 0:
				b[at] = pick(r, []byte(" \n01249.x\x00\xff")...)
			case 1:
				b = slices.Delete(b, at, at+1)
			case 2:
				b = slices.Insert(b, at, pick(r, []byte(" \n01249.x")...))
			case 3:
				b = slices.Concat(b, b[at:])
			}
		}
		checkOpen(t, string(b), o)
	}
}

// TestP10_2_Safe checks that all records are safe after Open, also if nothing had to be cut.
func TestP10_2_Safe(t *testing.T) {
	for _, rest := range []string{"", "2 0 2 pie"} {
		d := must(works.NewDisk(100))
		mustDo(d.Append([]byte("1 0 1 piece\n" + rest)))
		must(works.Open(d, 0, overlays()[0]))
		d.Crash(0)
		if b := string(must(d.Read())); b != "1 0 1 piece\n" {
			t.Errorf("%q, want the record", b)
		}
	}
}

func TestP10_2_Errors(t *testing.T) {
	o := overlays()[0]
	for _, shop := range []int{-1, 4, 5, math.MaxInt, math.MinInt} {
		if w, e := works.Open(newDisk(""), shop, o); w != nil || e != api.ErrArg {
			t.Errorf("shop %d: %v, %v", shop, w, e)
		}
	}
	for shop := range 4 {
		if w, e := works.Open(newDisk(""), shop, o); w == nil || e != api.OK {
			t.Errorf("shop %d: %v, %v", shop, w, e)
		}
	}
	for _, bad := range []dye.Overlay{{}, {Colours: 9}, {Colours: -1}, {Colours: 2, Dyes: [][]int{{0}}}, {Colours: 2, Dyes: [][]int{{0, 2}}}, {Colours: 1, Dyes: [][]int{{0}, {0}, {0}, {0}, {0}}}} {
		if w, e := works.Open(newDisk(""), 0, bad); w != nil || e != api.ErrArg {
			t.Errorf("overlay %v: %v, %v", bad, w, e)
		}
		if _, e := works.Open(nil, 0, bad); e != api.ErrNil {
			t.Errorf("overlay %v without disk: %v", bad, e)
		}
	}
	off := newDisk("x")
	off.Fuse(0)
	off.Sync()
	for _, x := range []struct {
		shop int
		o    dye.Overlay
		want api.Errno
	}{{0, o, api.ErrPower}, {4, o, api.ErrArg}, {0, dye.Overlay{}, api.ErrArg}} {
		if w, e := works.Open(off, x.shop, x.o); w != nil || e != x.want {
			t.Errorf("Open without power: %v, %v", w, e)
		}
	}
}

// TestP10_2_Operations checks how many operations Open does.
func TestP10_2_Operations(t *testing.T) {
	for content, want := range map[string]int{"": 1, "1 0 1 piece\n": 1, "x": 2, "1 0 1 piece\n1": 2} {
		for fuse := range 4 {
			d := newDisk(content)
			d.Fuse(fuse)
			w, e := works.Open(d, 0, overlays()[0])
			if fuse < want && (w != nil || e != api.ErrPower) || fuse >= want && (w == nil || e != api.OK) {
				t.Errorf("%q, power for %d operations: %v, %v", content, fuse, w, e)
			}
			d.Crash(0)
			if b := string(must(d.Read())); fuse == 0 && b != content || fuse > 0 && !strings.HasSuffix("1 0 1 piece\n", b) {
				t.Errorf("%q, power for %d operations: %q is left", content, fuse, b)
			}
		}
	}
}

// TestP10_2_Many checks books that have more entries than others can add.
func TestP10_2_Many(t *testing.T) {
	o := overlays()[0]
	l := []works.Entry{{Time: 1, Shop: 0, No: 1, Line: "piece"}}
	r := rand.New(rand.NewSource(1304))
	for n := range 2000 {
		l = append(l, works.Entry{Time: 2 + n, Shop: n % 4, No: 2 + n, Line: pick(r, "boil 0.1", "dye 0.1 0", "tile 0.1 2 1 01", "piece", "x")})
	}
	checkOpen(t, recordsOf(l), o)
	w := newWorks(0, o, l...)
	checkWorks(t, w, o, l)
	if s, e := w.Do("boil 0.1"); s != "" || e != api.ErrFull {
		t.Errorf("Do: %q, %v", s, e)
	}
	if n, e := w.Merge(nil); n != 0 || e != api.ErrFull {
		t.Errorf("Merge: %d, %v", n, e)
	}
}
