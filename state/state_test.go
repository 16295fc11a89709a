package state_test

import (
	"fmt"
	"math"
	"slices"
	"testing"

	"umbral/api"
	"umbral/state"
)

// wantDo holds what Do answers.
func wantDo(t *testing.T, g api.Graph, s api.State, a api.Action, in int, then api.State, seen api.Event) {
	t.Helper()
	got, event := state.Do(g, s, a, in)
	if !alike(got, then) || event != seen {
		t.Errorf("Do(%v, %v, %d): %v, %v, want %v, %v", s, a, in, got, event, then, seen)
	}
}

// wantLeaks holds what Leaks answers.
func wantLeaks(t *testing.T, g api.Graph, s api.State, leaks ...int) {
	t.Helper()
	if got := state.Leaks(g, s); !slices.Equal(got, leaks) {
		t.Errorf("Leaks of %v: %v, want %v", s, got, leaks)
	}
}

// alive and freed are cells.
func alive(t int, to ...int) api.Cell { return api.Cell{Type: t, To: to} }
func freed(t int, to ...int) api.Cell { return api.Cell{Type: t, Freed: true, To: to} }

func TestExample(t *testing.T) {
	g := api.Graph{Points: 1, Vars: 1, Structs: 1}
	s, event := state.Do(g, state.Begin(g), api.Action{Kind: api.DoNew, At: 5}, 1)
	if event != (api.Event{Kind: api.EvNew, At: 5, N: 1}) || !alike(s, api.State{Vars: []int{1}, Cells: []api.Cell{alive(0)}}) {
		t.Errorf("DoNew with 1: %v, %v", s, event)
	}
	wantLeaks(t, g, s)
	s, event = state.Do(g, s, api.Action{Kind: api.DoNull, At: 6}, 0)
	if event != (api.Event{}) || !alike(s, api.State{Vars: []int{0}, Cells: []api.Cell{alive(0)}}) {
		t.Errorf("DoNull of it: %v, %v", s, event)
	}
	wantLeaks(t, g, s, 1)
}

// P15.1: Begin, of counts of variables of any kind.
func TestBegin(t *testing.T) {
	counts := map[int]int{math.MinInt: 0, -1: 0, 0: 0, 1: 1, 2: 2, 23: 23, 24: 24, 25: 24, 1000: 24, math.MaxInt: 24}
	for vars, hasVars := range counts {
		for ints, hasInts := range counts {
			for _, start := range []int{0, 1, 7, 1999, 5000, -1, math.MinInt, math.MaxInt} {
				g := api.Graph{Points: 10, Start: start, End: 3, EndAt: 4, Vars: vars, Ints: ints, Structs: 3, Fields: make([]api.Field, 3), Heads: []int{1}, Edges: make([]api.Edge, 2)}
				want := api.State{Point: start, Vars: make([]int, hasVars), Ints: make([]int, hasInts)}
				if got := state.Begin(g); !alike(got, want) {
					t.Errorf("Begin with %d, %d: %v, want %v", vars, ints, got, want)
				}
				if got := state.Right(g, state.Begin(g)); got != (start >= 0 && start < 10) {
					t.Errorf("Right of Begin with %d, %d at %d: %v", vars, ints, start, got)
				}
			}
		}
	}
	if got := state.Begin(api.Graph{}); !alike(got, api.State{}) {
		t.Errorf("Begin of a zero graph: %v", got)
	}
}

// P15.1: Right, and each of its conditions broken by itself.
func TestRight(t *testing.T) {
	if !state.Right(small, middle()) {
		t.Fatalf("%v is not right", middle())
	}
	cases := []struct {
		what   string
		right  bool
		change func(s *api.State)
	}{
		{"the first point", true, func(s *api.State) { s.Point = 0 }},
		{"the last point", true, func(s *api.State) { s.Point = 3 }},
		{"the point before the first", false, func(s *api.State) { s.Point = -1 }},
		{"the point behind the last", false, func(s *api.State) { s.Point = 4 }},
		{"the least point", false, func(s *api.State) { s.Point = math.MinInt }},
		{"the greatest point", false, func(s *api.State) { s.Point = math.MaxInt }},
		{"a pointer too few", false, func(s *api.State) { s.Vars = s.Vars[:2] }},
		{"a pointer too many", false, func(s *api.State) { s.Vars = append(s.Vars, 0) }},
		{"no pointers", false, func(s *api.State) { s.Vars = nil }},
		{"a number too few", false, func(s *api.State) { s.Ints = s.Ints[:1] }},
		{"a number too many", false, func(s *api.State) { s.Ints = append(s.Ints, 0) }},
		{"no numbers", false, func(s *api.State) { s.Ints = nil }},
		{"the least number", true, func(s *api.State) { s.Ints[0] = math.MinInt }},
		{"the greatest number", true, func(s *api.State) { s.Ints[1] = math.MaxInt }},
		{"null", true, func(s *api.State) { s.Vars[0] = 0 }},
		{"a freed cell", true, func(s *api.State) { s.Vars[0] = 3 }},
		{"the last cell", true, func(s *api.State) { s.Vars[2] = 4 }},
		{"a cell behind the last", false, func(s *api.State) { s.Vars[2] = 5 }},
		{"a cell below 0", false, func(s *api.State) { s.Vars[1] = -1 }},
		{"the least cell", false, func(s *api.State) { s.Vars[0] = math.MinInt }},
		{"the greatest cell", false, func(s *api.State) { s.Vars[0] = math.MaxInt }},
		{"the last struct", true, func(s *api.State) { s.Cells[0].Type = 1 }},
		{"the struct behind the last", false, func(s *api.State) { s.Cells[0].Type = 2 }},
		{"a struct below 0", false, func(s *api.State) { s.Cells[3].Type = -1 }},
		{"the least struct", false, func(s *api.State) { s.Cells[0].Type = math.MinInt }},
		{"a freed cell of no struct", false, func(s *api.State) { s.Cells[2].Type = 2 }},
		{"a place that leads behind the last cell", false, func(s *api.State) { s.Cells[1].To[0] = 5 }},
		{"a place that leads to the last cell", true, func(s *api.State) { s.Cells[1].To[0] = 4 }},
		{"a place that leads below 0", false, func(s *api.State) { s.Cells[0].To[1] = -1 }},
		{"a freed cell that leads somewhere", false, func(s *api.State) { s.Cells[2].To[1] = 1 }},
		{"a freed cell that leads to itself", false, func(s *api.State) { s.Cells[2].To[0] = 3 }},
		{"a cell that leads somewhere, freed", false, func(s *api.State) { s.Cells[0].Freed = true }},
		{"a place that leads to a freed cell", true, func(s *api.State) { s.Cells[0].To[1] = 3 }},
		{"a place too few", false, func(s *api.State) { s.Cells[0].To = s.Cells[0].To[:1] }},
		{"a place too many", false, func(s *api.State) { s.Cells[0].To = append(s.Cells[0].To, 0) }},
		{"a freed cell with a place too few", false, func(s *api.State) { s.Cells[2].To = []int{0} }},
		{"a freed cell with no places", false, func(s *api.State) { s.Cells[2].To = nil }},
		{"a freed cell with a place too many", false, func(s *api.State) { s.Cells[2].To = []int{0, 0, 0} }},
		{"a cell less, which none leads to", false, func(s *api.State) { s.Cells = s.Cells[:2] }},
		{"a cell more", true, func(s *api.State) { s.Cells = append(s.Cells, alive(0, 0, 0)) }},
		{"no cells", false, func(s *api.State) { s.Cells = nil }},
	}
	for _, c := range cases {
		s := middle()
		c.change(&s)
		if got := state.Right(small, s); got != c.right {
			t.Errorf("%s: %v, want %v", c.what, got, c.right)
		}
		wantNothingOfWrong(t, c.what, c.right, s)
	}
}

// wantNothingOfWrong holds that a state that is not right has no Leaks, and stays as it is at all deeds; one that is right stays right.
func wantNothingOfWrong(t *testing.T, what string, right bool, s api.State) {
	t.Helper()
	for i, a := range deeds() {
		then, event := state.Do(small, s, a, i%2)
		if !right && (!alike(then, s) || event != (api.Event{})) {
			t.Errorf("%s: Do of %v: %v, %v", what, a, then, event)
		}
		if state.Right(small, then) != right {
			t.Errorf("%s: Right of what Do of %v tells is not %v", what, a, right)
		}
	}
	if !right {
		wantLeaks(t, small, s)
	}
}

// P15.1: Right of graphs with counts of any kind.
func TestRightOfAnyGraph(t *testing.T) {
	for _, points := range []int{math.MinInt, -1, 0} {
		for _, point := range []int{math.MinInt, -1, 0, 1, math.MaxInt} {
			if state.Right(api.Graph{Points: points}, api.State{Point: point}) {
				t.Errorf("of %d points %d is one", points, point)
			}
		}
	}
	for _, structs := range []int{math.MinInt, -1, 0} {
		for _, kind := range []int{math.MinInt, -1, 0, 1, math.MaxInt} {
			if state.Right(api.Graph{Points: 1, Structs: structs}, api.State{Cells: []api.Cell{alive(kind)}}) {
				t.Errorf("of %d structs %d is one", structs, kind)
			}
		}
	}
	for n, right := range map[int]bool{0: true, 7: true, 8: true, 9: true, math.MaxInt - 1: true, math.MaxInt: false, -1: false} {
		if got := state.Right(api.Graph{Points: 1, Structs: math.MaxInt}, api.State{Cells: []api.Cell{alive(n)}}); got != right {
			t.Errorf("a cell of struct %d: %v", n, got)
		}
		if got := state.Right(api.Graph{Points: math.MaxInt}, api.State{Point: n}); got != right {
			t.Errorf("point %d: %v", n, got)
		}
	}
	for _, fields := range []int{0, 1, 8, 9, 100, 100000} {
		g := api.Graph{Points: 1, Vars: 1, Structs: 1, Fields: make([]api.Field, fields)}
		if !state.Right(g, api.State{Vars: []int{1}, Cells: []api.Cell{alive(0, make([]int, fields)...)}}) {
			t.Errorf("a cell of %d fields is not right", fields)
		}
		s, _ := state.Do(g, state.Begin(g), api.Action{Kind: api.DoNew}, 1)
		if len(s.Cells) != 1 || len(s.Cells[0].To) != fields {
			t.Errorf("a new cell of %d fields: %v", fields, s)
		}
	}
	if !state.Right(api.Graph{Points: 1}, api.State{Vars: []int{}, Ints: []int{}, Cells: []api.Cell{}}) || state.Right(api.Graph{}, api.State{}) {
		t.Errorf("states without anything")
	}
}

// What is as long as all fields cannot be made of little: lists that are too short are told first.
func TestManyFieldsAndCells(t *testing.T) {
	g := api.Graph{Points: 1, Vars: 1, Structs: 1, Fields: make([]api.Field, 1<<18)}
	s := api.State{Vars: []int{1}, Cells: make([]api.Cell, 1<<18)}
	if state.Right(g, s) || state.Leaks(g, s) != nil {
		t.Errorf("cells without places are right")
	}
	wantDo(t, g, s, api.Action{Kind: api.DoNull}, 0, s, api.Event{})
}

// P15.1: Same, of states that differ in each field and each list alone.
func TestSame(t *testing.T) {
	changes := []func(s *api.State){
		func(s *api.State) { s.Point++ },
		func(s *api.State) { s.Vars[0]++ },
		func(s *api.State) { s.Vars[2]-- },
		func(s *api.State) { s.Vars = s.Vars[:2] },
		func(s *api.State) { s.Vars = append(s.Vars, 0) },
		func(s *api.State) { s.Vars = nil },
		func(s *api.State) { s.Ints[0]++ },
		func(s *api.State) { s.Ints[1]-- },
		func(s *api.State) { s.Ints = s.Ints[:1] },
		func(s *api.State) { s.Ints = append(s.Ints, 0) },
		func(s *api.State) { s.Ints = nil },
		func(s *api.State) { s.Cells[0].Type++ },
		func(s *api.State) { s.Cells[3].Type-- },
		func(s *api.State) { s.Cells[1].Freed = true },
		func(s *api.State) { s.Cells[2].Freed = false },
		func(s *api.State) { s.Cells[0].To[0]++ },
		func(s *api.State) { s.Cells[3].To[1]-- },
		func(s *api.State) { s.Cells[1].To = s.Cells[1].To[:1] },
		func(s *api.State) { s.Cells[1].To = append(s.Cells[1].To, 0) },
		func(s *api.State) { s.Cells[2].To = nil },
		func(s *api.State) { s.Cells = s.Cells[:3] },
		func(s *api.State) { s.Cells = append(s.Cells, api.Cell{}) },
		func(s *api.State) { s.Cells = nil },
		func(s *api.State) { s.Cells[0], s.Cells[1] = s.Cells[1], s.Cells[0] },
		func(s *api.State) { s.Vars, s.Ints = s.Ints, s.Vars },
		func(s *api.State) { *s = api.State{} },
	}
	for i, change := range changes {
		a, b := middle(), middle()
		if !state.Same(a, b) || !state.Same(a, a) {
			t.Fatalf("%v is not the same as itself", a)
		}
		change(&b)
		if state.Same(a, b) || state.Same(b, a) {
			t.Errorf("change %d: %v and %v are the same", i, a, b)
		}
		if !state.Same(b, twin(b)) || !state.Same(roomy(b), b) {
			t.Errorf("change %d: %v is not the same as itself", i, b)
		}
	}
	none := api.State{Vars: []int{}, Ints: []int{}, Cells: []api.Cell{}}
	if !state.Same(none, api.State{}) || !state.Same(api.State{}, none) {
		t.Errorf("nil and empty lists are not the same")
	}
	if !state.Same(api.State{Cells: []api.Cell{{To: []int{}}}}, api.State{Cells: []api.Cell{{}}}) {
		t.Errorf("nil and empty places are not the same")
	}
}

// P15.2: Holds of DoSame.
func TestHoldsSame(t *testing.T) {
	s := api.State{Vars: []int{0, 2, 2, 3, -4}}
	values := map[int]int{0: 0, 1: 2, 2: 2, 3: 3, 4: -4, -1: 0, -2: 0, 5: 0, math.MinInt: 0, math.MaxInt: 0}
	for x, left := range values {
		for y, right := range values {
			for _, in := range inputs {
				a := api.Action{Kind: api.DoSame, X: x, Y: y, Sense: true}
				if got := state.Holds(s, a, in); got != (left == right) {
					t.Errorf("p%d is p%d: %v", x, y, got)
				}
				a.Sense = false
				if got := state.Holds(s, a, in); got != (left != right) {
					t.Errorf("p%d is not p%d: %v", x, y, got)
				}
			}
		}
	}
}

// P15.2: Holds of DoPick.
func TestHoldsPick(t *testing.T) {
	for _, in := range append([]int{3, -2}, inputs...) {
		for _, s := range []api.State{{}, middle(), {Vars: []int{1}, Ints: []int{1}}} {
			if got := state.Holds(s, api.Action{Kind: api.DoPick, Sense: true}, in); got != (in != 0) {
				t.Errorf("pick with %d: %v", in, got)
			}
			if got := state.Holds(s, api.Action{Kind: api.DoPick}, in); got != (in == 0) {
				t.Errorf("pick with %d, without sense: %v", in, got)
			}
		}
	}
}

// P15.2: Holds of DoTest.
func TestHoldsTest(t *testing.T) {
	s := api.State{Vars: []int{9, 9, 9, 9, 9, 9}, Ints: []int{0, 5, -5, math.MaxInt, math.MinInt}}
	operands := map[api.Operand]int{
		{Var: 0}: 0, {Var: 1}: 5, {Var: 2}: -5, {Var: 3}: math.MaxInt, {Var: 4}: math.MinInt,
		{Var: 1, N: 6}: 5, {Var: 5}: 0, {Var: 5, N: 7}: 0, {Var: math.MaxInt, N: 1}: 0,
		{Var: -1}: 0, {Var: -1, N: 5}: 5, {Var: -1, N: -5}: -5, {Var: -2, N: 6}: 6,
		{Var: math.MinInt, N: math.MaxInt}: math.MaxInt, {Var: -1, N: math.MinInt}: math.MinInt, {Var: -1, N: 999999999}: 999999999,
	}
	for l, left := range operands {
		for r, right := range operands {
			for op := -2; op <= 3; op++ {
				want := left < right
				if op == 0 {
					want = left == right
				}
				for _, sense := range []bool{false, true} {
					a := api.Action{Kind: api.DoTest, Op: op, L: l, R: r, Sense: sense}
					if got := state.Holds(s, a, left); got != (want == sense) {
						t.Errorf("Holds of %v: %v", a, got)
					}
				}
			}
		}
	}
}

// P15.2: Holds of other kinds, and of states that may be any.
func TestHoldsOthers(t *testing.T) {
	for _, kind := range []int{0, 1, 2, 3, 4, 5, 6, 7, 10, 11, 13, -1, math.MinInt, math.MaxInt} {
		for _, s := range []api.State{{}, middle(), {Vars: []int{-1}, Ints: nil}} {
			for _, in := range inputs {
				if !state.Holds(s, api.Action{Kind: kind}, in) || !state.Holds(s, api.Action{Kind: kind, X: 1, Sense: true}, in) {
					t.Errorf("kind %d does not hold", kind)
				}
			}
		}
	}
	zero := api.State{}
	if !state.Holds(zero, api.Action{Kind: api.DoSame, X: 0, Y: 3, Sense: true}, 0) || !state.Holds(zero, api.Action{Kind: api.DoTest, Sense: true}, 0) {
		t.Errorf("what is not there is not 0")
	}
}

// P15.3: what is done with pointers.
func TestDoPointers(t *testing.T) {
	then := func(change func(s *api.State)) api.State {
		s := middle()
		change(&s)
		return s
	}
	for _, in := range inputs {
		do := func(a api.Action, seen api.Event, change func(s *api.State)) {
			t.Helper()
			a.At, seen.At = 0, 0
			wantDo(t, small, middle(), a, in, then(change), seen)
			a.At = 65536
			if seen.Kind != 0 {
				seen.At = 65536
			}
			wantDo(t, small, middle(), a, in, then(change), seen)
		}
		none := api.Event{}
		do(api.Action{Kind: api.DoNull, X: 0}, none, func(s *api.State) { s.Vars[0] = 0 })
		do(api.Action{Kind: api.DoNull, X: 1}, none, func(s *api.State) {})
		do(api.Action{Kind: api.DoNull, X: 2}, none, func(s *api.State) { s.Vars[2] = 0 })
		do(api.Action{Kind: api.DoCopy, X: 1, Y: 0}, none, func(s *api.State) { s.Vars[1] = 1 })
		do(api.Action{Kind: api.DoCopy, X: 0, Y: 1}, none, func(s *api.State) { s.Vars[0] = 0 })
		do(api.Action{Kind: api.DoCopy, X: 0, Y: 2}, none, func(s *api.State) { s.Vars[0] = 3 })
		do(api.Action{Kind: api.DoCopy, X: 2, Y: 2}, none, func(s *api.State) {})
		do(api.Action{Kind: api.DoLoad, X: 1, Y: 0, F: 0}, none, func(s *api.State) { s.Vars[1] = 2 })
		do(api.Action{Kind: api.DoLoad, X: 0, Y: 0, F: 0}, none, func(s *api.State) { s.Vars[0] = 2 })
		do(api.Action{Kind: api.DoLoad, X: 2, Y: 0, F: 1}, none, func(s *api.State) { s.Vars[2] = 0 })
		do(api.Action{Kind: api.DoCut, X: 0, F: 0}, none, func(s *api.State) { s.Cells[0].To[0] = 0 })
		do(api.Action{Kind: api.DoCut, X: 0, F: 1}, none, func(s *api.State) {})
		do(api.Action{Kind: api.DoLink, X: 0, F: 1, Y: 0}, none, func(s *api.State) { s.Cells[0].To[1] = 1 })
		do(api.Action{Kind: api.DoLink, X: 0, F: 0, Y: 1}, none, func(s *api.State) { s.Cells[0].To[0] = 0 })
		do(api.Action{Kind: api.DoLink, X: 0, F: 0, Y: 2}, none, func(s *api.State) { s.Cells[0].To[0] = 3 })
		do(api.Action{Kind: api.DoFree, X: 0}, api.Event{Kind: api.EvFree, N: 1}, func(s *api.State) { s.Cells[0] = freed(0, 0, 0) })
	}
}

// P15.3: each error: nothing changes.
func TestDoErrors(t *testing.T) {
	for _, c := range []struct {
		a    api.Action
		kind int
	}{
		{api.Action{Kind: api.DoLoad, X: 0, Y: 1, F: 0}, api.ByNull},
		{api.Action{Kind: api.DoLoad, X: 1, Y: 1, F: 1}, api.ByNull},
		{api.Action{Kind: api.DoLoad, X: 0, Y: 2, F: 1}, api.ByUse},
		{api.Action{Kind: api.DoCut, X: 1, F: 0}, api.ByNull},
		{api.Action{Kind: api.DoCut, X: 2, F: 1}, api.ByUse},
		{api.Action{Kind: api.DoLink, X: 1, F: 0, Y: 0}, api.ByNull},
		{api.Action{Kind: api.DoLink, X: 1, F: 0, Y: 2}, api.ByNull},
		{api.Action{Kind: api.DoLink, X: 2, F: 1, Y: 0}, api.ByUse},
		{api.Action{Kind: api.DoLink, X: 2, F: 1, Y: 1}, api.ByUse},
		{api.Action{Kind: api.DoFree, X: 1}, api.ByNull},
		{api.Action{Kind: api.DoFree, X: 2}, api.ByTwice},
	} {
		for _, in := range inputs {
			for _, at := range []int{0, 1, 65536} {
				c.a.At = at
				wantDo(t, small, middle(), c.a, in, middle(), api.Event{Kind: api.EvError, At: at, N: c.kind})
			}
		}
	}
}

// P15.3: new cells, and inputs.
func TestDoInputs(t *testing.T) {
	for _, in := range []int{1, -1, 2, math.MinInt, math.MaxInt} {
		for x := range 3 {
			for kind := range 2 {
				then := middle()
				then.Cells = append(then.Cells, alive(kind, 0, 0))
				then.Vars[x] = 5
				wantDo(t, small, middle(), api.Action{Kind: api.DoNew, X: x, T: kind, At: 9}, in, then, api.Event{Kind: api.EvNew, At: 9, N: 1})
			}
		}
	}
	for x := range 3 {
		then := middle()
		then.Vars[x] = 0
		wantDo(t, small, middle(), api.Action{Kind: api.DoNew, X: x, T: 1, At: 9}, 0, then, api.Event{Kind: api.EvNew, At: 9})
	}
	for _, in := range append([]int{7, -8}, inputs...) {
		for x := range 2 {
			then := middle()
			then.Ints[x] = in
			wantDo(t, small, middle(), api.Action{Kind: api.DoTake, X: x, At: 9}, in, then, api.Event{})
		}
	}
}

// P15.3: sums and differences, past the ends too.
func TestDoPut(t *testing.T) {
	g := api.Graph{Points: 1, Ints: 2}
	for _, c := range []struct{ l, r, sum, less int }{
		{0, 0, 0, 0},
		{3, 4, 7, -1},
		{-3, 4, 1, -7},
		{math.MaxInt, 1, math.MinInt, math.MaxInt - 1},
		{math.MinInt, 1, math.MinInt + 1, math.MaxInt},
		{math.MaxInt, -1, math.MaxInt - 1, math.MinInt},
		{math.MinInt, -1, math.MaxInt, math.MinInt + 1},
		{math.MaxInt, math.MaxInt, -2, 0},
		{math.MinInt, math.MinInt, 0, 0},
		{0, math.MinInt, math.MinInt, math.MinInt},
		{-1, math.MinInt, math.MaxInt, math.MaxInt},
		{math.MaxInt, math.MinInt, -1, -1},
		{math.MinInt, math.MaxInt, -1, 1},
	} {
		s := api.State{Ints: []int{c.l, c.r}}
		l, r := api.Operand{Var: 0}, api.Operand{Var: 1}
		for x := range 2 {
			for op, want := range []int{c.l, c.sum, c.less} {
				a := api.Action{Kind: api.DoPut, X: x, Op: op, L: l, At: 4}
				if op > 0 {
					a.R = r
				}
				then := api.State{Ints: []int{c.l, c.r}}
				then.Ints[x] = want
				wantDo(t, g, s, a, 1, then, api.Event{})
			}
		}
	}
	number := func(n int) api.Operand { return api.Operand{Var: -1, N: n} }
	s := api.State{Ints: []int{math.MaxInt, math.MinInt}}
	wantDo(t, g, s, api.Action{Kind: api.DoPut, X: 0, L: number(999999999)}, 1, api.State{Ints: []int{999999999, math.MinInt}}, api.Event{})
	wantDo(t, g, s, api.Action{Kind: api.DoPut, X: 0, Op: 1, L: number(2), R: number(40)}, 1, api.State{Ints: []int{42, math.MinInt}}, api.Event{})
	wantDo(t, g, s, api.Action{Kind: api.DoPut, X: 1, Op: 2, L: number(2), R: number(40)}, 1, api.State{Ints: []int{math.MaxInt, -38}}, api.Event{})
	wantDo(t, g, s, api.Action{Kind: api.DoPut, X: 1, Op: 1, L: number(2), R: api.Operand{Var: 0}}, 1, api.State{Ints: []int{math.MaxInt, math.MinInt + 1}}, api.Event{})
	wantDo(t, g, s, api.Action{Kind: api.DoPut, X: 1, Op: 2, L: api.Operand{Var: 1}, R: number(1)}, 1, api.State{Ints: []int{math.MaxInt, math.MaxInt}}, api.Event{})
}

// P15.3: other actions do nothing, whether they hold or not.
func TestDoOthers(t *testing.T) {
	for _, a := range []api.Action{
		{Kind: api.DoSkip},
		{Kind: api.DoSkip, At: 65536},
		{Kind: api.DoSame, X: 0, Y: 1, Sense: true},
		{Kind: api.DoSame, X: -1, Y: -1},
		{Kind: api.DoPick, Sense: true},
		{Kind: api.DoPick},
		{Kind: api.DoTest, L: api.Operand{Var: 1}, R: api.Operand{Var: -1, N: 4}},
		{Kind: api.DoTest, Op: 1, L: api.Operand{Var: 1}, R: api.Operand{Var: -1, N: 4}, Sense: true},
	} {
		for _, in := range inputs {
			wantDo(t, small, middle(), a, in, middle(), api.Event{})
		}
	}
}

// P15.3, P15.5: actions that the graph does not have do nothing: the state stays as it is, and so stays right.
func TestDoWhatIsNotThere(t *testing.T) {
	for _, a := range []api.Action{
		{Kind: -1}, {Kind: 13}, {Kind: math.MinInt}, {Kind: math.MaxInt},
		{Kind: api.DoSkip, At: -1}, {Kind: api.DoSkip, At: 65537}, {Kind: api.DoSkip, X: 1}, {Kind: api.DoSkip, Sense: true},
		{Kind: api.DoNull, X: 3}, {Kind: api.DoNull, X: -1}, {Kind: api.DoNull, X: 24}, {Kind: api.DoNull, Y: 1},
		{Kind: api.DoCopy, X: 3}, {Kind: api.DoCopy, Y: 3}, {Kind: api.DoCopy, Y: -1},
		{Kind: api.DoLoad, F: 2}, {Kind: api.DoLoad, F: -1}, {Kind: api.DoLoad, Y: 3},
		{Kind: api.DoCut, F: 2}, {Kind: api.DoCut, X: 3}, {Kind: api.DoLink, F: 2}, {Kind: api.DoLink, Y: 3},
		{Kind: api.DoNew, T: 2}, {Kind: api.DoNew, T: -1}, {Kind: api.DoNew, X: 3},
		{Kind: api.DoFree, X: 3}, {Kind: api.DoFree, X: math.MaxInt}, {Kind: api.DoFree, X: math.MinInt},
		{Kind: api.DoSame, X: 3}, {Kind: api.DoSame, Y: 3}, {Kind: api.DoSame, X: -2},
		{Kind: api.DoTake, X: 2}, {Kind: api.DoTake, X: -1},
		{Kind: api.DoPut, X: 2}, {Kind: api.DoPut, Op: 3}, {Kind: api.DoPut, Op: -1}, {Kind: api.DoPut, L: api.Operand{Var: 2}},
		{Kind: api.DoPut, L: api.Operand{Var: -1, N: 1000000000}}, {Kind: api.DoPut, Op: 1, R: api.Operand{Var: 2}}, {Kind: api.DoPut, R: api.Operand{Var: 1}},
		{Kind: api.DoTest, Op: 2}, {Kind: api.DoTest, L: api.Operand{Var: 2}}, {Kind: api.DoTest, R: api.Operand{Var: -2}},
	} {
		for _, in := range inputs {
			wantDo(t, small, middle(), a, in, middle(), api.Event{})
			if then, _ := state.Do(small, middle(), a, in); !state.Right(small, then) {
				t.Errorf("Do of %v: %v is not right", a, then)
			}
		}
	}
	cell := api.Graph{Points: 1, Vars: 1, Structs: 1, Fields: []api.Field{{}}}
	led := api.State{Vars: []int{1}, Cells: []api.Cell{alive(0, 0)}}
	wantDo(t, cell, led, api.Action{Kind: api.DoNull, X: 1}, 0, led, api.Event{})
	number := api.Graph{Points: 1, Ints: 1}
	wantDo(t, number, state.Begin(number), api.Action{Y: 1}, 0, api.State{Ints: []int{0}}, api.Event{})
}

// P15.3: at most 24 variables are there, which are done with as others.
func TestDoTheLastVariables(t *testing.T) {
	for _, count := range []int{24, 25, math.MaxInt} {
		g := api.Graph{Points: 1, Vars: count, Ints: count, Structs: 1}
		s := state.Begin(g)
		then := state.Begin(g)
		then.Vars[23], then.Cells = 1, []api.Cell{alive(0)}
		wantDo(t, g, s, api.Action{Kind: api.DoNew, X: 23}, 1, then, api.Event{Kind: api.EvNew, N: 1})
		then = state.Begin(g)
		then.Ints[23] = 6
		wantDo(t, g, s, api.Action{Kind: api.DoTake, X: 23}, 6, then, api.Event{})
		wantDo(t, g, s, api.Action{Kind: api.DoTake, X: 24}, 6, s, api.Event{})
		wantDo(t, g, s, api.Action{Kind: api.DoNull, X: 24}, 6, s, api.Event{})
	}
}

// P15.4: Leaks.
func TestLeaks(t *testing.T) {
	g := api.Graph{Points: 1, Vars: 2, Structs: 1, Fields: make([]api.Field, 2)}
	for _, c := range []struct {
		vars  []int
		cells []api.Cell
		leaks []int
	}{
		{[]int{0, 0}, nil, nil},
		{[]int{0, 0}, []api.Cell{alive(0, 0, 0)}, []int{1}},
		{[]int{0, 1}, []api.Cell{alive(0, 0, 0)}, nil},
		{[]int{1, 1}, []api.Cell{alive(0, 0, 0), alive(0, 0, 0)}, []int{2}},
		{[]int{1, 0}, []api.Cell{alive(0, 0, 2), alive(0, 3, 0), alive(0, 0, 0)}, nil},
		{[]int{0, 3}, []api.Cell{alive(0, 0, 2), alive(0, 3, 0), alive(0, 0, 0)}, []int{1, 2}},
		{[]int{2, 0}, []api.Cell{alive(0, 2, 0), alive(0, 3, 0), alive(0, 2, 3)}, []int{1}},
		{[]int{0, 0}, []api.Cell{alive(0, 2, 0), alive(0, 3, 1), alive(0, 1, 3)}, []int{1, 2, 3}},
		{[]int{1, 0}, []api.Cell{alive(0, 1, 1), alive(0, 2, 1)}, []int{2}},
		{[]int{1, 0}, []api.Cell{freed(0, 0, 0), alive(0, 1, 1)}, []int{2}},
		{[]int{0, 0}, []api.Cell{freed(0, 0, 0), freed(0, 0, 0)}, nil},
		{[]int{2, 0}, []api.Cell{freed(0, 0, 0), alive(0, 1, 3), alive(0, 0, 0), freed(0, 0, 0), alive(0, 3, 4)}, []int{5}},
		{[]int{5, 4}, []api.Cell{alive(0, 0, 0), alive(0, 1, 0), alive(0, 2, 0), alive(0, 3, 0), alive(0, 4, 0)}, nil},
	} {
		s := api.State{Vars: c.vars, Cells: c.cells}
		wantLeaks(t, g, s, c.leaks...)
		for i, change := range []func(s *api.State){
			func(s *api.State) { s.Point = 1 },
			func(s *api.State) { s.Vars = s.Vars[:1] },
			func(s *api.State) { s.Ints = []int{0} },
			func(s *api.State) { s.Vars[0] = len(s.Cells) + 1 },
			func(s *api.State) { s.Cells = append(s.Cells, alive(1, 0, 0)) },
			func(s *api.State) { s.Cells = append(s.Cells, alive(0, 0, -1)) },
			func(s *api.State) { s.Cells = append(s.Cells, alive(0, 0)) },
		} {
			wrong := twin(s)
			change(&wrong)
			if got := state.Leaks(g, wrong); len(got) != 0 {
				t.Errorf("Leaks of a state that is not right (%d): %v", i, got)
			}
		}
	}
}

// P15.4: a freed cell keeps nothing from leaking, and what it led to leaks.
func TestFreeLeaks(t *testing.T) {
	g := api.Graph{Points: 1, Vars: 2, Structs: 1, Fields: make([]api.Field, 1)}
	s := api.State{Vars: []int{1, 0}, Cells: []api.Cell{alive(0, 2), alive(0, 0)}}
	wantLeaks(t, g, s)
	s, _ = state.Do(g, s, api.Action{Kind: api.DoFree, X: 0}, 0)
	wantLeaks(t, g, s, 2)
	if got, want := fmt.Sprint(s.Vars), "[1 0]"; got != want {
		t.Errorf("the variable of the freed cell: %s, want %s", got, want)
	}
	s, event := state.Do(g, s, api.Action{Kind: api.DoFree, X: 0, At: 8}, 0)
	if event != (api.Event{Kind: api.EvError, At: 8, N: api.ByTwice}) {
		t.Errorf("freed twice: %v", event)
	}
	wantLeaks(t, g, s, 2)
}
