package kleene_test

import (
	"math"
	"strconv"
	"testing"

	"umbral/api"
	"umbral/kleene"
)

const (
	no    = kleene.False
	maybe = kleene.Maybe
	yes   = kleene.True
)

var truths = []float64{no, maybe, yes}

// meaning is a float and the truth that it means.
type meaning struct {
	name string
	x    float64
	want float64
}

// meanings holds ordinary floats and all edges that the chapter names.
func meanings() []meaning {
	return []meaning{
		{"False", 0, no},
		{"Maybe", 0.5, maybe},
		{"True", 1, yes},
		{"a quarter", 0.25, maybe},
		{"three quarters", 0.75, maybe},
		{"seven", 7, yes},
		{"less seven", -7, no},
		{"nought with a sign", math.Copysign(0, -1), no},
		{"just below 0", -math.SmallestNonzeroFloat64, no},
		{"just above 0", math.SmallestNonzeroFloat64, maybe},
		{"just below a half", math.Nextafter(0.5, 0), maybe},
		{"just above a half", math.Nextafter(0.5, 1), maybe},
		{"just below 1", math.Nextafter(1, 0), maybe},
		{"just above 1", math.Nextafter(1, 2), yes},
		{"the greatest float", math.MaxFloat64, yes},
		{"the least float", -math.MaxFloat64, no},
		{"infinity", math.Inf(1), yes},
		{"less infinity", math.Inf(-1), no},
		{"NaN", math.NaN(), maybe},
		{"NaN with a sign", math.Copysign(math.NaN(), -1), maybe},
		{"another NaN", math.Float64frombits(0x7FF0000000000001), maybe},
	}
}

// same holds floats against each other bit by bit: == tells neither a nought's sign nor a NaN.
func same(t *testing.T, what string, got, want float64, args ...any) {
	t.Helper()
	if math.Float64bits(got) != math.Float64bits(want) {
		t.Errorf("%s of %v: %v (%#x), want %v", what, args, got, math.Float64bits(got), want)
	}
}

// lists goes over all lists of n truths.
func lists(n int, yield func([]float64)) {
	l := make([]float64, n)
	var fill func(int)
	fill = func(i int) {
		if i == n {
			yield(l)
			return
		}
		for _, x := range truths {
			l[i] = x
			fill(i + 1)
		}
	}
	fill(0)
}

// P1.1

func TestConstants(t *testing.T) {
	same(t, "False", no, 0)
	same(t, "Maybe", maybe, 0.5)
	same(t, "True", yes, 1)
}

func TestClean(t *testing.T) {
	for _, m := range meanings() {
		same(t, "Clean", kleene.Clean(m.x), m.want, m.name)
	}
}

// All other calls take what their arguments mean.
func TestCallsTakeMeanings(t *testing.T) {
	all := meanings()
	for _, a := range all {
		same(t, "Not", kleene.Not(a.x), kleene.Not(a.want), a.name)
		same(t, "And", kleene.And(a.x), a.want, a.name)
		same(t, "Or", kleene.Or(a.x), a.want, a.name)
		same(t, "Join", kleene.Join(a.x), a.want, a.name)
		if got, want := kleene.Text(a.x), kleene.Text(a.want); got != want {
			t.Errorf("Text of %s: %q, want %q", a.name, got, want)
		}
		for _, b := range all {
			same(t, "And", kleene.And(a.x, b.x), kleene.And(a.want, b.want), a.name, b.name)
			same(t, "Or", kleene.Or(a.x, b.x), kleene.Or(a.want, b.want), a.name, b.name)
			same(t, "Join", kleene.Join(a.x, b.x), kleene.Join(a.want, b.want), a.name, b.name)
			if got, want := kleene.Holds(a.x, b.x), kleene.Holds(a.want, b.want); got != want {
				t.Errorf("Holds of %s, %s: %v, want %v", a.name, b.name, got, want)
			}
			for _, c := range all {
				same(t, "Ite", kleene.Ite(c.x, a.x, b.x), kleene.Ite(c.want, a.want, b.want), c.name, a.name, b.name)
			}
		}
	}
}

// P1.2

func TestNot(t *testing.T) {
	same(t, "Not", kleene.Not(no), yes, no)
	same(t, "Not", kleene.Not(maybe), maybe, maybe)
	same(t, "Not", kleene.Not(yes), no, yes)
}

func TestPairs(t *testing.T) {
	for _, c := range []struct{ a, b, and, or, join float64 }{
		{no, no, no, no, no},
		{no, maybe, no, maybe, maybe},
		{no, yes, no, yes, maybe},
		{maybe, no, no, maybe, maybe},
		{maybe, maybe, maybe, maybe, maybe},
		{maybe, yes, maybe, yes, maybe},
		{yes, no, no, yes, maybe},
		{yes, maybe, maybe, yes, maybe},
		{yes, yes, yes, yes, yes},
	} {
		same(t, "And", kleene.And(c.a, c.b), c.and, c.a, c.b)
		same(t, "Or", kleene.Or(c.a, c.b), c.or, c.a, c.b)
		same(t, "Join", kleene.Join(c.a, c.b), c.join, c.a, c.b)
	}
}

func TestEmptyLists(t *testing.T) {
	for _, l := range [][]float64{nil, {}, make([]float64, 0, 4)} {
		same(t, "And", kleene.And(l...), yes, l)
		same(t, "Or", kleene.Or(l...), no, l)
		same(t, "Join", kleene.Join(l...), maybe, l)
	}
	same(t, "And", kleene.And(), yes)
	same(t, "Or", kleene.Or(), no)
	same(t, "Join", kleene.Join(), maybe)
}

// What a list comes to hangs on how often each truth stands in it, wherever that is.
func TestLongLists(t *testing.T) {
	for n := 1; n <= 5; n++ {
		lists(n, func(l []float64) {
			count := map[float64]int{}
			for _, x := range l {
				count[x]++
			}
			and, or, join := maybe, maybe, maybe
			if count[no] > 0 {
				and = no
			} else if count[yes] == n {
				and, join = yes, yes
			}
			if count[yes] > 0 {
				or = yes
			} else if count[no] == n {
				or, join = no, no
			}
			same(t, "And", kleene.And(l...), and, l)
			same(t, "Or", kleene.Or(l...), or, l)
			same(t, "Join", kleene.Join(l...), join, l)
		})
	}
}

func TestIte(t *testing.T) {
	for _, c := range []struct{ c, a, b, want float64 }{
		{yes, no, no, no}, {yes, no, maybe, no}, {yes, no, yes, no},
		{yes, maybe, no, maybe}, {yes, maybe, maybe, maybe}, {yes, maybe, yes, maybe},
		{yes, yes, no, yes}, {yes, yes, maybe, yes}, {yes, yes, yes, yes},
		{no, no, no, no}, {no, no, maybe, maybe}, {no, no, yes, yes},
		{no, maybe, no, no}, {no, maybe, maybe, maybe}, {no, maybe, yes, yes},
		{no, yes, no, no}, {no, yes, maybe, maybe}, {no, yes, yes, yes},
		{maybe, no, no, no}, {maybe, no, maybe, maybe}, {maybe, no, yes, maybe},
		{maybe, maybe, no, maybe}, {maybe, maybe, maybe, maybe}, {maybe, maybe, yes, maybe},
		{maybe, yes, no, maybe}, {maybe, yes, maybe, maybe}, {maybe, yes, yes, yes},
	} {
		same(t, "Ite", kleene.Ite(c.c, c.a, c.b), c.want, c.c, c.a, c.b)
	}
}

// A list that is handed in, and the room behind its end, stays as it is (R3).
func TestListsAreNotChanged(t *testing.T) {
	room := []float64{math.Copysign(0, -1), math.NaN(), 7, 3, -3}
	want := make([]uint64, len(room))
	for i, x := range room {
		want[i] = math.Float64bits(x)
	}
	kleene.And(room[:3]...)
	kleene.Or(room[:3]...)
	kleene.Join(room[:3]...)
	for i, x := range room {
		if math.Float64bits(x) != want[i] {
			t.Errorf("place %d became %v", i, x)
		}
	}
}

// P1.3

func TestHolds(t *testing.T) {
	for _, c := range []struct {
		wide, x float64
		want    bool
	}{
		{no, no, true}, {no, maybe, false}, {no, yes, false},
		{maybe, no, true}, {maybe, maybe, true}, {maybe, yes, true},
		{yes, no, false}, {yes, maybe, false}, {yes, yes, true},
		{math.NaN(), 1, true}, {1, math.NaN(), false}, {math.NaN(), math.NaN(), true},
		{math.Copysign(0, -1), 0, true}, {math.Inf(1), 1, true}, {math.Inf(1), math.Inf(-1), false},
	} {
		if got := kleene.Holds(c.wide, c.x); got != c.want {
			t.Errorf("Holds(%v, %v): %v, want %v", c.wide, c.x, got, c.want)
		}
	}
}

func TestText(t *testing.T) {
	words := map[float64]string{no: "0", maybe: "?", yes: "1"}
	for _, m := range meanings() {
		if got := kleene.Text(m.x); got != words[m.want] {
			t.Errorf("Text of %s: %q, want %q", m.name, got, words[m.want])
		}
	}
}

func TestParse(t *testing.T) {
	for _, x := range truths {
		got, err := kleene.Parse(kleene.Text(x))
		same(t, "Parse", got, x, strconv.Quote(kleene.Text(x)))
		if err != api.OK {
			t.Errorf("Parse(%q): %v", kleene.Text(x), err)
		}
	}
}

func TestParseWrongTexts(t *testing.T) {
	for _, s := range []string{
		"", " ", "2", "-", "-0", "+1", "00", "01", "10", "11", "??", "0?", "?1",
		" 0", "0 ", "1\n", "\n1", "\t?", "?\x00", "\x00", "\x01", "0.5", ".5", "0.0", "1.0", "1e0", "0x1",
		"true", "false", "maybe", "True", "NaN", "Inf", "½", "１", "？", "\xff", "\x30\xff", "¿",
	} {
		got, err := kleene.Parse(s)
		same(t, "Parse", got, no, strconv.Quote(s))
		if err != api.ErrBad {
			t.Errorf("Parse(%q): error %v, want %v", s, err, api.ErrBad)
		}
	}
	for b := range 256 {
		s := string([]byte{byte(b)})
		_, err := kleene.Parse(s)
		if right := s == "0" || s == "?" || s == "1"; right != (err == api.OK) {
			t.Errorf("Parse(%q): error %v", s, err)
		}
	}
}

// P1.4: what is put for a wider truth comes to one that holds what it came to.
func TestWiderTruthsHold(t *testing.T) {
	holds := func(what string, wide, x float64, args ...any) {
		t.Helper()
		if !kleene.Holds(wide, x) {
			t.Errorf("%s of %v: %v does not hold %v", what, args, wide, x)
		}
	}
	for n := 0; n <= 4; n++ {
		lists(n, func(l []float64) {
			for open := range 1 << n {
				wide := append([]float64{}, l...)
				for i := range wide {
					if open&(1<<i) != 0 {
						wide[i] = maybe
					}
				}
				holds("And", kleene.And(wide...), kleene.And(l...), wide, l)
				holds("Or", kleene.Or(wide...), kleene.Or(l...), wide, l)
				holds("Join", kleene.Join(wide...), kleene.Join(l...), wide, l)
				if n == 1 {
					holds("Not", kleene.Not(wide[0]), kleene.Not(l[0]), wide, l)
				}
				if n == 3 {
					holds("Ite", kleene.Ite(wide[0], wide[1], wide[2]), kleene.Ite(l[0], l[1], l[2]), wide, l)
				}
			}
		})
	}
}

// P1.4 of floats of any kind.
func TestWiderFloatsHold(t *testing.T) {
	all := meanings()
	for _, wide := range all {
		for _, x := range all {
			if !kleene.Holds(wide.x, x.x) {
				continue
			}
			for _, y := range all {
				for what, pair := range map[string][2]float64{
					"Not":         {kleene.Not(wide.x), kleene.Not(x.x)},
					"And":         {kleene.And(wide.x, y.x), kleene.And(x.x, y.x)},
					"Or":          {kleene.Or(y.x, wide.x), kleene.Or(y.x, x.x)},
					"Join":        {kleene.Join(wide.x, y.x), kleene.Join(x.x, y.x)},
					"Ite, first":  {kleene.Ite(wide.x, y.x, 1), kleene.Ite(x.x, y.x, 1)},
					"Ite, second": {kleene.Ite(y.x, wide.x, 0), kleene.Ite(y.x, x.x, 0)},
					"Ite, third":  {kleene.Ite(y.x, 1, wide.x), kleene.Ite(y.x, 1, x.x)},
				} {
					if !kleene.Holds(pair[0], pair[1]) {
						t.Errorf("%s of %s for %s, and %s: %v does not hold %v", what, wide.name, x.name, y.name, pair[0], pair[1])
					}
				}
			}
		}
	}
}

// P1.5: Not of And is Or of Nots.
func TestNotOfAnd(t *testing.T) {
	check := func(l []float64) {
		t.Helper()
		nots := make([]float64, len(l))
		for i, x := range l {
			nots[i] = kleene.Not(x)
		}
		same(t, "Not of And", kleene.Not(kleene.And(l...)), kleene.Or(nots...), l)
	}
	for n := 0; n <= 5; n++ {
		lists(n, check)
	}
	all := meanings()
	for _, a := range all {
		for _, b := range all {
			for _, c := range all {
				check([]float64{a.x, b.x, c.x})
			}
		}
	}
}
