package action_test

import (
	"math"
	"testing"

	"umbral/action"
	"umbral/api"
)

func TestExamples(t *testing.T) {
	a, err := action.Parse("load p1 p2 f0 @7")
	if want := (api.Action{Kind: api.DoLoad, X: 1, Y: 2, F: 0, At: 7}); a != want || err != api.OK || action.Text(want) != "load p1 p2 f0 @7" {
		t.Errorf("the first example: %+v, %v", a, err)
	}
	a, err = action.Parse("test i0 < 3 no @4")
	if want := (api.Action{Kind: api.DoTest, At: 4, Op: 1, R: api.Operand{Var: -1, N: 3}}); a != want || err != api.OK || action.Text(want) != "test i0 < 3 no @4" {
		t.Errorf("the second example: %+v, %v", a, err)
	}
}

// P11.3: Branch and Needs look at the Kind alone.
func TestBranchAndNeeds(t *testing.T) {
	branch := map[int]bool{api.DoSame: true, api.DoPick: true, api.DoTest: true}
	needs := map[int]bool{api.DoNew: true, api.DoPick: true, api.DoTake: true}
	for _, a := range shaken() {
		if got := action.Branch(a); got != branch[a.Kind] {
			t.Errorf("Branch(%+v): %v", a, got)
		}
		if got := action.Needs(a); got != needs[a.Kind] {
			t.Errorf("Needs(%+v): %v", a, got)
		}
	}
}

// P11.3: Not has the other Sense of a Branch, and leaves all else as it is.
func TestNot(t *testing.T) {
	for _, a := range shaken() {
		want, handed := a, a
		if a.Kind == 8 || a.Kind == 9 || a.Kind == 12 {
			want.Sense = !a.Sense
		}
		got := action.Not(a)
		if got != want {
			t.Errorf("Not(%+v): %+v", a, got)
		}
		if again := action.Not(got); again != a {
			t.Errorf("Not of Not of %+v: %+v", a, again)
		}
		if action.Right(got) != action.Right(a) && action.Branch(a) {
			t.Errorf("Not(%+v): one of both alone is Right", a)
		}
		if again := action.Not(a); again != got || a != handed {
			t.Errorf("Not(%+v) again: %+v, but %+v ahead of it", a, again, got)
		}
	}
}

func TestTextOfNot(t *testing.T) {
	for text, want := range map[string]string{
		"test i0 < 3 no @4":      "test i0 < 3 yes @4",
		"test i0 == i1 yes @4":   "test i0 == i1 no @4",
		"pick yes @1":            "pick no @1",
		"pick no @1":             "pick yes @1",
		"same null p23 no @2":    "same null p23 yes @2",
		"same p1 p2 yes @65536":  "same p1 p2 no @65536",
		"skip @1":                "skip @1",
		"free p1 @1":             "free p1 @1",
		"put i1 i2 - 3 @1":       "put i1 i2 - 3 @1",
		"new p0 s0 @0":           "new p0 s0 @0",
		"take i0 @0":             "take i0 @0",
		"load p22 p23 f7 @65535": "load p22 p23 f7 @65535",
	} {
		a, err := action.Parse(text)
		if got := action.Text(action.Not(a)); got != want || err != api.OK {
			t.Errorf("Not of %q: %q, %v, want %q", text, got, err, want)
		}
	}
}

// shaken are the samples with each kind, both Senses, and numbers that may not be.
func shaken() []api.Action {
	var l []api.Action
	for _, s := range samples() {
		for _, kind := range kinds() {
			for _, sense := range []bool{false, true} {
				a := s.act
				a.Kind, a.Sense = kind, sense
				l = append(l, a)
				for i := range slots(&a) {
					for _, n := range []int{math.MinInt, -1, 1, math.MaxInt} {
						b := a
						*slots(&b)[i] = n
						l = append(l, b)
					}
				}
			}
		}
	}
	return l
}
