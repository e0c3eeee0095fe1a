package dye_test

import (
	"math/rand"
	"slices"
	"strings"
	"testing"

	"canting/api"
	"canting/dye"
)

// reduceOf tries all rules at all places from the front, for each replacement anew.
func reduceOf(l []dye.Rule, s string) (string, api.Errno) {
	for done := 0; ; done++ {
		next, changed := onceOf(l, s)
		if !changed {
			return s, api.OK
		}
		if done == 10000 {
			return "", api.ErrFuel
		}
		s = next
	}
}

func onceOf(l []dye.Rule, s string) (string, bool) {
	for at := range len(s) {
		for _, r := range l {
			if strings.HasPrefix(s[at:], r.From) {
				return s[:at] + r.To + s[at+len(r.From):], true
			}
		}
	}
	return s, false
}

func TestP4_4_Reduce(t *testing.T) {
	r := rand.New(rand.NewSource(51))
	for _, l := range ruleLists() {
		for length := range 65 {
			for _, letters := range []string{"0123bw", "bw", "01"} {
				s := randomString(r, letters, length)
				want, f := reduceOf(l, s)
				if got, e := dye.Reduce(l, s); e != f || got != want {
					t.Errorf("Reduce(%q, %q): %q, %v, want %q, %v", l, s, got, e, want, f)
				}
			}
		}
	}
}

func TestP4_4_ByHand(t *testing.T) {
	one := []dye.Rule{{From: "bb", To: "b"}, {From: "bw", To: "w"}, {From: "wb", To: "b"}, {From: "ww", To: "w"}}
	long := strings.Repeat("w", 15)
	for _, x := range []struct {
		what string
		l    []dye.Rule
		s    string
		want string
	}{
		{"no rules", nil, "0123bw", "0123bw"},
		{"no string", one, "", ""},
		{"example 3", one, "bwwb", "b"},
		{"the lowest place, not the first rule", []dye.Rule{{From: "bw", To: "00"}, {From: "wb", To: "11"}}, "wbw", "11w"},
		{"the lowest place, not the earliest end", []dye.Rule{{From: "b", To: "0"}, {From: "wbw", To: "1"}}, "wbw", "1"},
		{"the first rule, short", []dye.Rule{{From: "w", To: "0"}, {From: "wb", To: "1"}}, "wb", "0b"},
		{"the first rule, long", []dye.Rule{{From: "wb", To: "1"}, {From: "w", To: "0"}}, "wb", "1"},
		{"the first of one From", []dye.Rule{{From: "w", To: "0"}, {From: "w", To: "1"}}, "w", "0"},
		{"all of it goes", []dye.Rule{{From: "w"}}, strings.Repeat("w", 64), ""},
		{"back to what was before", []dye.Rule{{From: long + "0", To: "0"}, {From: "3", To: "0"}}, long + long + "3", "0"},
		{"back by one place", []dye.Rule{{From: "wb"}}, strings.Repeat("w", 32) + strings.Repeat("b", 32), ""},
		{"only what is there", []dye.Rule{{From: "www", To: "b"}}, "wwbww", "wwbww"},
	} {
		if got, e := dye.Reduce(x.l, x.s); e != api.OK || got != x.want {
			t.Errorf("%s: Reduce(%q, %q): %q, %v, want %q", x.what, x.l, x.s, got, e, x.want)
		}
	}
}

// digits returns a number in 14 binary digits.
func digits(n int) string {
	var b strings.Builder
	for i := 13; i >= 0; i-- {
		b.WriteByte(byte('0' + n>>i&1))
	}
	return b.String()
}

func TestP4_4_Fuel(t *testing.T) {
	for n, want := range map[int]api.Errno{0: api.OK, 1: api.OK, 9999: api.OK, 10000: api.OK, 10001: api.ErrFuel, 16383: api.ErrFuel} {
		left := digits(0) + "w"
		if want != api.OK {
			left = ""
		}
		if got, e := dye.Reduce(counter(), digits(n)+"w"); e != want || got != left {
			t.Errorf("%d counted down: %q, %v", n, got, e)
		}
	}
}

func TestP4_4_Arguments(t *testing.T) {
	for what, l := range badRules() {
		for _, s := range []string{"", "w", "wbw", "x", strings.Repeat("w", 65)} {
			if got, e := dye.Reduce(l, s); e != api.ErrArg || got != "" {
				t.Errorf("Reduce with %s of %q: %q, %v", what, s, got, e)
			}
		}
	}
	for _, l := range ruleLists() {
		for _, s := range badWords(dye.Overlay{Dyes: make([][]int, 4)}) {
			if got, e := dye.Reduce(l, s); e != api.ErrArg || got != "" {
				t.Errorf("Reduce(%q, %q): %q, %v", l, s, got, e)
			}
		}
	}
	most := slices.Repeat([]dye.Rule{{From: strings.Repeat("w", 16), To: strings.Repeat("b", 16)}}, 200)
	if got, e := dye.Reduce(most, strings.Repeat("w", 64)); e != api.OK || got != strings.Repeat("b", 64) {
		t.Errorf("the longest rules: %q, %v", got, e)
	}
}

// pairsOf follows the definition.
func pairsOf(l []dye.Rule) [][2]string {
	var out [][2]string
	for i, a := range l {
		for j, b := range l {
			for k := 1; k <= len(a.From)-1 && k <= len(b.From)-1; k++ {
				if a.From[len(a.From)-k:] == b.From[:k] {
					out = append(out, [2]string{a.To + b.From[k:], a.From[:len(a.From)-k] + b.To})
				}
			}
			for p := 0; p+len(b.From) <= len(a.From) && i != j; p++ {
				if a.From[p:p+len(b.From)] == b.From {
					out = append(out, [2]string{a.To, a.From[:p] + b.To + a.From[p+len(b.From):]})
				}
			}
		}
	}
	return out
}

func TestP4_5_Pairs(t *testing.T) {
	for _, l := range ruleLists() {
		if got, e := dye.Pairs(l); e != api.OK || !slices.Equal(got, pairsOf(l)) {
			t.Errorf("Pairs(%q): %q, %v, want %q", l, got, e, pairsOf(l))
		}
	}
}

func TestP4_5_PairsByHand(t *testing.T) {
	for _, x := range []struct {
		l    []dye.Rule
		want [][2]string
	}{
		{nil, nil},
		{[]dye.Rule{{From: "w"}}, nil},
		{[]dye.Rule{{From: "00"}, {From: "0b", To: "b"}}, [][2]string{{"0", "0"}, {"b", "0b"}}},
		{[]dye.Rule{{From: "www", To: "b"}}, [][2]string{{"bww", "wwb"}, {"bw", "wb"}}},
		{[]dye.Rule{{From: "w", To: "0"}, {From: "w", To: "1"}}, [][2]string{{"0", "1"}, {"1", "0"}}},
		{[]dye.Rule{{From: "wbwb", To: "0"}, {From: "wb", To: "1"}}, [][2]string{{"0wb", "wb0"}, {"0", "1wb"}, {"0", "wb1"}}},
		{[]dye.Rule{{From: "bw"}, {From: "wbw", To: "b"}}, [][2]string{{"bw", "bb"}, {"b", "w"}, {"bbw", "wbb"}}},
	} {
		if got, e := dye.Pairs(x.l); e != api.OK || !slices.Equal(got, x.want) {
			t.Errorf("Pairs(%q): %q, %v, want %q", x.l, got, e, x.want)
		}
	}
}

// confluentOf follows the definition.
func confluentOf(l []dye.Rule) (bool, api.Errno) {
	joined := true
	for _, pair := range pairsOf(l) {
		x, e := reduceOf(l, pair[0])
		y, f := reduceOf(l, pair[1])
		if e != api.OK || f != api.OK {
			return false, api.ErrFuel
		}
		joined = joined && x == y
	}
	return joined, api.OK
}

func TestP4_5_Confluent(t *testing.T) {
	met := map[bool]int{}
	for _, l := range ruleLists() {
		want, f := confluentOf(l)
		if got, e := dye.Confluent(l); e != f || got != want {
			t.Errorf("Confluent(%q): %v, %v, want %v, %v", l, got, e, want, f)
		}
		met[want]++
	}
	if met[true] < 10 || met[false] < 10 {
		t.Errorf("too few of both: %v", met)
	}
}

func TestP4_5_ConfluentByHand(t *testing.T) {
	for _, x := range []struct {
		l    []dye.Rule
		want bool
	}{
		{nil, true},
		{[]dye.Rule{{From: "w"}}, true},
		{[]dye.Rule{{From: "00"}, {From: "0b", To: "b"}}, true},
		{[]dye.Rule{{From: "0b"}, {From: "b0"}}, true},
		{[]dye.Rule{{From: "wb", To: "w"}, {From: "bw", To: "b"}}, false},
		{[]dye.Rule{{From: "wbw"}}, false},
		{[]dye.Rule{{From: "w", To: "0"}, {From: "w", To: "1"}}, false},
		{[]dye.Rule{{From: "w", To: "0"}, {From: "w", To: "1"}, {From: "1", To: "0"}}, true},
		{[]dye.Rule{{From: "wb", To: "0"}, {From: "b", To: "1"}}, false},
		{[]dye.Rule{{From: "wb", To: "0"}, {From: "b", To: "1"}, {From: "w1", To: "0"}}, true},
	} {
		if got, e := dye.Confluent(x.l); e != api.OK || got != x.want {
			t.Errorf("Confluent(%q): %v, %v", x.l, got, e)
		}
	}
}

// counting returns two rules whose first pair is a number to count down and a string that stays.
func counting(n int) []dye.Rule {
	return []dye.Rule{{From: strings.Repeat("2", 16), To: digits(n)}, {From: "2w", To: "w"}}
}

func TestP4_5_Fuel(t *testing.T) {
	apart := []dye.Rule{{From: "3", To: "0"}, {From: "3", To: "1"}}
	for _, x := range []struct {
		what string
		l    []dye.Rule
		want api.Errno
	}{
		{"10000", counting(10000), api.OK},
		{"10001", counting(10001), api.ErrFuel},
		{"10001, after a pair that is not joined", slices.Concat(apart, counting(10001)), api.ErrFuel},
		{"10001, before a pair that is not joined", slices.Concat(counting(10001), apart), api.ErrFuel},
		{"10001, in the second string", []dye.Rule{{From: "222222222222222w"}, {From: "222222222222222", To: digits(10001)}}, api.ErrFuel},
		{"10000, in the second string", []dye.Rule{{From: "222222222222222w"}, {From: "222222222222222", To: digits(10000)}}, api.OK},
	} {
		got, e := dye.Confluent(slices.Concat(x.l, counter()))
		if e != x.want || got {
			t.Errorf("%s: %v, %v", x.what, got, e)
		}
	}
}

// TestP4_5_ManyPairs checks the most pairs that there may be of one From: no time is lost on strings that are met again.
func TestP4_5_ManyPairs(t *testing.T) {
	var l []dye.Rule
	for n := range 200 {
		l = append(l, dye.Rule{From: strings.Repeat("w", 16), To: digits(9000 + n)[:14] + "b"})
	}
	got, e := dye.Pairs(l)
	if e != api.OK || len(got) != 200*200*15+200*199 {
		t.Errorf("%d pairs, %v", len(got), e)
	}
	if ok, e := dye.Confluent(l); e != api.OK || ok {
		t.Errorf("Confluent: %v, %v", ok, e)
	}
	same := slices.Repeat([]dye.Rule{{From: strings.Repeat("w", 16)}}, 200)
	if ok, e := dye.Confluent(same); e != api.OK || !ok {
		t.Errorf("Confluent, all rules the same: %v, %v", ok, e)
	}
}

func TestP4_5_Arguments(t *testing.T) {
	for what, l := range badRules() {
		if got, e := dye.Pairs(l); e != api.ErrArg || len(got) != 0 {
			t.Errorf("Pairs with %s: %q, %v", what, got, e)
		}
		if got, e := dye.Confluent(l); e != api.ErrArg || got {
			t.Errorf("Confluent with %s: %v, %v", what, got, e)
		}
	}
}

func TestP4_10_Completeness(t *testing.T) {
	r := rand.New(rand.NewSource(52))
	checked := 0
	for _, o := range overlays() {
		l, e := dye.Rules(o)
		if e != api.OK || !areRules(l) {
			continue
		}
		checked++
		for length := range 65 {
			w := randomWord(r, o, length)
			if got, e := dye.Reduce(l, w); e != api.OK || got != must(dye.Normal(o, w)) {
				t.Errorf("%v: Reduce of %q: %q, %v, Normal %q", o, w, got, e, must(dye.Normal(o, w)))
			}
		}
		if ok, e := dye.Confluent(l); e != api.OK || !ok {
			t.Errorf("Confluent(Rules(%v)): %v, %v", o, ok, e)
		}
		for i, a := range l {
			if must(dye.Normal(o, a.To)) != a.To {
				t.Errorf("Rules(%v): %q is no normal form", o, a.To)
			}
			for j, b := range l {
				if i != j && strings.Contains(a.From, b.From) {
					t.Errorf("Rules(%v): %q has %q as a factor", o, a.From, b.From)
				}
			}
		}
	}
	if checked < 20 {
		t.Errorf("only %d lists of rules are valid", checked)
	}
}

func TestP4_11_Termination(t *testing.T) {
	r := rand.New(rand.NewSource(53))
	for _, l := range ruleLists() {
		for range 30 {
			once, e := dye.Reduce(l, randomString(r, "0123bw", r.Intn(65)))
			if e != api.OK {
				continue
			}
			if again, e := dye.Reduce(l, once); e != api.OK || again != once {
				t.Errorf("Reduce(%q, %q): %q, %v", l, once, again, e)
			}
		}
	}
	for _, o := range overlays() {
		l := alike(r, o)
		for length := range 65 {
			w := randomWord(r, o, length)
			if got, e := dye.Reduce(l, w); e != api.OK || !must(dye.Same(o, w, got)) {
				t.Errorf("Reduce(%q, %q): %q, %v, another action in %v", l, w, got, e, o)
			}
		}
	}
}

// alike returns some rules whose From and To have the same action.
func alike(r *rand.Rand, o dye.Overlay) []dye.Rule {
	var l []dye.Rule
	for range 3000 {
		u, v := randomWord(r, o, r.Intn(6)), randomWord(r, o, r.Intn(5))
		if shortlex(v, u) < 0 && keyOf(o, u) == keyOf(o, v) && len(l) < 20 {
			l = append(l, dye.Rule{From: u, To: v})
		}
	}
	return l
}
