package mask_test

import (
	"fmt"
	"strings"
	"testing"

	"canting/api"
	"canting/mask"
)

// written returns the text of a mask by the chapter's words.
func written(f mask.Mask) string {
	if len(f.Nodes) == 0 {
		return fmt.Sprintf("%d %c", f.Vars, "FT"[f.Root])
	}
	s := fmt.Sprint(f.Vars)
	for _, node := range f.Nodes {
		s += fmt.Sprintf(" %d?%d:%d", node.Var, node.High, node.Low)
	}
	return s
}

func checkText(t *testing.T, table []bool) {
	t.Helper()
	f := canonical(table)
	if s, e := mask.Text(f); s != written(f) || e != api.OK {
		t.Errorf("Text(%v): %q, error %d", short(f), s, e)
	}
	g, e := mask.Read(written(f))
	wantMask(t, g, e, table, "Read", written(f))
}

func TestP2_8_TextAndRead(t *testing.T) {
	for n := range 4 {
		for _, table := range allTables(n) {
			checkText(t, table)
		}
	}
	for n := range 13 {
		for _, table := range someTables(n) {
			checkText(t, table)
		}
	}
}

func wantErrForm(t *testing.T, s string) {
	t.Helper()
	if f, e := mask.Read(s); e != api.ErrForm || !isZero(f) {
		t.Errorf("Read(%.60q): %v, error %d", s, short(f), e)
	}
}

func TestP2_8_ReadInvalid(t *testing.T) {
	for _, s := range []string{
		"", " ", "F", "T", " F", "2", "2 ", "2F", "2 f", "2 t", "2 0", "2 1", "2 FT", "2 F T", "2 F F", "2  F", " 2 F", "2 F ", "2 F\n", "\n2 F", "2\tF", "2,F",
		"02 F", "00 F", "+2 F", "-0 F", "-1 F", "13 T", "12345678901234567890 T", "99999999999999999999999 T", "0x2 F", "2. F", "1_0 F", "\uff12 F", "2 \uff26", "2 F\x00", "2 \xff",
		"2 0?1:0 ", "2  0?1:0", " 2 0?1:0", "2 0?1:0\n", "2 0?1:0 F", "2 T 0?1:0", "2 0?1:0 T",
		"2 0?1", "2 0:1", "2 ?1:0", "2 0?:0", "2 0?1:", "2 ?:", "2 0?1:0?", "2 0?1:0:", "2 0??1:0", "2 0?1::0", "2 0:1?0", "2 0 ?1:0", "2 0? 1:0", "2 0?1 :0", "2 0?1: 0",
		"2 00?1:0", "2 0?01:0", "2 0?1:00", "2 +0?1:0", "2 -0?1:0", "2 0?+1:0", "2 0?1:-0", "2 0?1:+0", "2 0?1:0x0", "2 0?1_:0", "2 \u0660?1:0", "2 0?\u0661:0",
		"2 0?0:0", "2 0?1:1", "2 2?1:0", "2 -1?1:0", "2 0?2:0", "2 0?-1:0", "2 0?1:-1", "2 0?1:2", "0 0?1:0", "13 0?1:0", "2 99999999999999999999?1:0", "2 0?99999999999999999999:0", "2 0?1:99999999999999999999",
		"2 1?1:0 0?1:0", "2 0?1:0 0?0:1", "2 1?1:0 1?1:0 0?3:2", "2 1?0:1 1?1:0 0?2:3", "2 1?1:0 0?2:2", "2 1?1:0 1?0:1", "2 0?1:0 1?2:0", "2 1?1:0 0?3:0",
		"2 0?1:0 1", "2 0?1:0 1?1", "x", "2 x", "2 x?1:0", "2 0?x:0", "2 0?1:x",
		strings.Repeat("0?1:0 ", 100_000), "12 " + strings.Repeat(" ", 1_000_000), "12" + strings.Repeat(" 0?1:0", 100_000), strings.Repeat("1", 1_000_000), strings.Repeat("1", 1_000_000) + " F", "2 " + strings.Repeat("0", 1_000_000) + "?1:0",
	} {
		wantErrForm(t, s)
	}
}

// TestP2_8_ReadChanged changes texts in one place: what is read has just that text.
func TestP2_8_ReadChanged(t *testing.T) {
	check := func(s string) {
		t.Helper()
		f, e := mask.Read(s)
		if e == api.ErrForm && isZero(f) {
			return
		}
		if e != api.OK || !mask.Valid(f) || written(f) != s {
			t.Errorf("Read(%q): %v, error %d", s, short(f), e)
		}
	}
	for _, table := range append(someTables(4), someTables(12)[8]) {
		s := written(canonical(table))
		for i := range min(len(s), 200) {
			check(s[:i])
			check(s[i:])
			check(s[:i] + s[i+1:])
			for _, c := range "0123456789 ?:+-FTx" {
				check(s[:i] + string(c) + s[i:])
				check(s[:i] + string(c) + s[i+1:])
			}
		}
	}
}
