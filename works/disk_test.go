package works_test

import (
	"bytes"
	"math"
	"math/rand"
	"testing"

	"canting/api"
	"canting/works"
)

// diskModel is a disk as the chapter says it: all operations so far that were done, and what is left until the power goes off.
type diskModel struct {
	size        int
	safe, loose []byte
	off         bool
	left        int // below 0: no fuse
}

func (m *diskModel) all() []byte {
	return append(bytes.Clone(m.safe), m.loose...)
}

// goes reports whether an operation is done.
func (m *diskModel) goes() bool {
	if m.left == 0 {
		m.off = true
	}
	if m.off {
		return false
	}
	m.left--
	return true
}

func (m *diskModel) append(b []byte) api.Errno {
	if len(m.all())+len(b) > m.size {
		return api.ErrFull
	}
	if !m.goes() {
		return api.ErrPower
	}
	m.loose = append(m.loose, b...)
	return api.OK
}

func (m *diskModel) sync() api.Errno {
	if !m.goes() {
		return api.ErrPower
	}
	m.safe, m.loose = m.all(), nil
	return api.OK
}

func (m *diskModel) cut(n int) api.Errno {
	if n < 0 || n > len(m.all()) {
		return api.ErrArg
	}
	if !m.goes() {
		return api.ErrPower
	}
	m.safe, m.loose = m.all()[:n], nil
	return api.OK
}

func (m *diskModel) setFuse(k int) {
	if !m.off {
		m.left = k
	}
}

func (m *diskModel) crash(keep int) {
	keep = max(0, min(keep, len(m.loose)))
	m.safe, m.loose = m.all()[:len(m.safe)+keep], nil
	m.off, m.left = false, -1
}

func checkDisk(t *testing.T, d *works.Disk, m *diskModel) {
	t.Helper()
	got, e := d.Read()
	if m.off {
		if len(got) != 0 || e != api.ErrPower {
			t.Fatalf("Read without power: %q, %v", got, e)
		}
		return
	}
	if !bytes.Equal(got, m.all()) || e != api.OK {
		t.Fatalf("Read %q, %v, want %q", got, e, m.all())
	}
}

func TestP10_1_Disk(t *testing.T) {
	r := rand.New(rand.NewSource(1301))
	for range 3000 {
		size := 1 + r.Intn(60)
		d := must(works.NewDisk(size))
		m := &diskModel{size: size, left: -1}
		for range 40 {
			var got, want api.Errno
			switch r.Intn(8) {
			case 0, 1, 2:
				b := make([]byte, r.Intn(12))
				r.Read(b)
				got, want = d.Append(b), m.append(b)
			case 3:
				got, want = d.Sync(), m.sync()
			case 4:
				n := r.Intn(size+5) - 2
				got, want = d.Cut(n), m.cut(n)
			case 5, 6:
				k := r.Intn(8) - 2
				d.Fuse(k)
				m.setFuse(k)
			case 7:
				keep := r.Intn(16) - 3
				d.Crash(keep)
				m.crash(keep)
			}
			if got != want {
				t.Fatalf("%v, want %v", got, want)
			}
			checkDisk(t, d, m)
		}
	}
}

func TestP10_1_NewDisk(t *testing.T) {
	for _, size := range []int{0, -1, 1_000_001, math.MaxInt, math.MinInt} {
		if d, e := works.NewDisk(size); d != nil || e != api.ErrArg {
			t.Errorf("NewDisk(%d): %v, %v", size, d, e)
		}
	}
	for _, size := range []int{1, 2, 999_999, 1_000_000} {
		d, e := works.NewDisk(size)
		if e != api.OK {
			t.Fatalf("NewDisk(%d): %v", size, e)
		}
		if b, e := d.Read(); len(b) != 0 || e != api.OK {
			t.Errorf("a new disk of %d has %d bytes, %v", size, len(b), e)
		}
		if e := d.Append(make([]byte, size+1)); e != api.ErrFull {
			t.Errorf("%d bytes on a disk of %d: %v", size+1, size, e)
		}
		if e := d.Append(make([]byte, size)); e != api.OK {
			t.Errorf("%d bytes on a disk of %d: %v", size, size, e)
		}
		if e := d.Append(nil); e != api.OK {
			t.Errorf("nothing on a full disk: %v", e)
		}
		if e := d.Append([]byte{0}); e != api.ErrFull {
			t.Errorf("a byte on a full disk: %v", e)
		}
	}
}

// TestP10_1_Order checks that errors of other kinds come before those of power, and are no operations.
func TestP10_1_Order(t *testing.T) {
	d := must(works.NewDisk(4))
	d.Fuse(2)
	mustDo(d.Append([]byte("abc")))
	for range 5 {
		if e := d.Append([]byte("de")); e != api.ErrFull {
			t.Errorf("Append: %v", e)
		}
		if e := d.Cut(4); e != api.ErrArg {
			t.Errorf("Cut: %v", e)
		}
		must(d.Read())
	}
	mustDo(d.Sync())
	must(d.Read()) // the power is still on
	if e := d.Cut(0); e != api.ErrPower {
		t.Errorf("Cut: %v", e)
	}
	if b, e := d.Read(); len(b) != 0 || e != api.ErrPower {
		t.Errorf("Read: %q, %v", b, e)
	}
	for _, x := range []struct {
		what      string
		got, want api.Errno
	}{
		{"Append", d.Append([]byte("d")), api.ErrPower},
		{"Append of too much", d.Append([]byte("de")), api.ErrFull},
		{"Sync", d.Sync(), api.ErrPower},
		{"Cut", d.Cut(3), api.ErrPower},
		{"Cut above", d.Cut(4), api.ErrArg},
		{"Cut below", d.Cut(-1), api.ErrArg},
		{"Cut far above", d.Cut(math.MaxInt), api.ErrArg},
		{"Cut far below", d.Cut(math.MinInt), api.ErrArg},
	} {
		if x.got != x.want {
			t.Errorf("%s without power: %v, want %v", x.what, x.got, x.want)
		}
	}
	d.Crash(0)
	if b := must(d.Read()); string(b) != "abc" {
		t.Errorf("after all, %q", b)
	}
}

func TestP10_1_Fuse(t *testing.T) {
	for _, k := range []int{-1, -2, math.MinInt, math.MaxInt, 1000} {
		d := must(works.NewDisk(10))
		d.Fuse(0)
		d.Fuse(k)
		for range 1000 {
			if e := d.Sync(); e != api.OK {
				t.Fatalf("Fuse(%d): %v", k, e)
			}
		}
		if e := d.Sync(); (e == api.OK) != (k != 1000) {
			t.Errorf("Fuse(%d): %v", k, e)
		}
	}
	d := must(works.NewDisk(10))
	d.Fuse(0)
	if b, e := d.Read(); len(b) != 0 || e != api.OK {
		t.Errorf("Read before the power goes off: %q, %v", b, e)
	}
	if e := d.Append([]byte("a")); e != api.ErrPower {
		t.Errorf("Append: %v", e)
	}
	d.Fuse(5) // while the power is off nothing happens
	if e := d.Append([]byte("a")); e != api.ErrPower {
		t.Errorf("Append: %v", e)
	}
	d.Crash(1)
	for range 10 {
		mustDo(d.Sync()) // there is no fuse
	}
	if b := must(d.Read()); len(b) != 0 {
		t.Errorf("what was not done is there: %q", b)
	}
}

func TestP10_1_Crash(t *testing.T) {
	for keep, want := range map[int]string{0: "ab", -1: "ab", math.MinInt: "ab", 1: "abc", 2: "abcd", 3: "abcde", 4: "abcde", math.MaxInt: "abcde"} {
		for _, fuse := range []int{-1, 0, 3} {
			d := must(works.NewDisk(10))
			mustDo(d.Append([]byte("ab")))
			mustDo(d.Sync())
			mustDo(d.Append([]byte("cd")))
			mustDo(d.Append([]byte("e")))
			d.Fuse(fuse)
			if fuse == 0 {
				d.Sync()
			}
			d.Crash(keep)
			if b := must(d.Read()); string(b) != want {
				t.Errorf("Crash(%d): %q, want %q", keep, b, want)
			}
			d.Crash(0) // all of them are safe
			for range 10 {
				mustDo(d.Sync())
			}
			if b := must(d.Read()); string(b) != want {
				t.Errorf("Crash(%d) and again: %q, want %q", keep, b, want)
			}
		}
	}
}

// TestP10_1_CutSafe checks that what Cut leaves is safe, and only that.
func TestP10_1_CutSafe(t *testing.T) {
	d := must(works.NewDisk(10))
	mustDo(d.Append([]byte("abcd")))
	mustDo(d.Cut(3))
	mustDo(d.Append([]byte("xy")))
	d.Crash(1)
	if b := must(d.Read()); string(b) != "abcx" {
		t.Errorf("%q", b)
	}
	mustDo(d.Cut(1))
	mustDo(d.Append([]byte("z")))
	d.Crash(0)
	if b := must(d.Read()); string(b) != "a" {
		t.Errorf("%q", b)
	}
}
