package state_test

import (
	"fmt"
	"math"
	"slices"
	"testing"

	"umbral/api"
	"umbral/graph"
	"umbral/state"
)

// rows tells all rows of as many numbers, each from 0 to below count.
func rows(long, count int) [][]int {
	all := [][]int{nil}
	for range long {
		var longer [][]int
		for _, row := range all {
			for n := range count {
				longer = append(longer, append(slices.Clone(row), n))
			}
		}
		all = longer
	}
	return all
}

// allCells tells all cells of so many structs, fields and cells that can be right.
func allCells(structs, fields, cells int) []api.Cell {
	var all []api.Cell
	for kind := range structs {
		all = append(all, api.Cell{Type: kind, Freed: true, To: make([]int, fields)})
		for _, to := range rows(fields, cells+1) {
			all = append(all, api.Cell{Type: kind, To: to})
		}
	}
	return all
}

// allStates tells all states of g with so many cells, with numbers from a few.
func allStates(g api.Graph, cells int) []api.State {
	var all []api.State
	some := allCells(g.Structs, len(g.Fields), cells)
	for _, row := range rows(cells, len(some)) {
		var heap []api.Cell
		for _, n := range row {
			heap = append(heap, some[n])
		}
		for _, vars := range rows(g.Vars, cells+1) {
			ints := make([]int, g.Ints)
			for i := range ints {
				ints[i] = 3 - i - len(all)%3
			}
			all = append(all, api.State{Point: len(all) % g.Points, Vars: vars, Ints: ints, Cells: heap})
		}
	}
	return all
}

// allActions tells all actions of g, and those that name one thing that it does not have.
func allActions(g api.Graph) []api.Action {
	var all []api.Action
	add := func(a api.Action) {
		a.At = 10 + len(all)%7
		all = append(all, a)
	}
	operands := []api.Operand{{Var: -1, N: 0}, {Var: -1, N: 2}, {Var: -1, N: math.MaxInt}}
	for i := range g.Ints + 1 {
		operands = append(operands, api.Operand{Var: i})
	}
	for kind := -1; kind <= 13; kind++ {
		add(api.Action{Kind: kind})
		for x := range g.Vars + 1 {
			add(api.Action{Kind: kind, X: x})
			for f := range len(g.Fields) + 1 {
				add(api.Action{Kind: kind, X: x, F: f})
				for y := range g.Vars + 1 {
					add(api.Action{Kind: kind, X: x, F: f, Y: y})
				}
			}
			for n := range g.Structs + 1 {
				add(api.Action{Kind: kind, X: x, T: n})
			}
		}
	}
	for x := -1; x <= g.Vars; x++ {
		for y := -1; y <= g.Vars; y++ {
			add(api.Action{Kind: api.DoSame, X: x, Y: y})
			add(api.Action{Kind: api.DoSame, X: x, Y: y, Sense: true})
		}
	}
	for _, l := range operands {
		for op := -1; op <= 3; op++ {
			for x := range g.Ints + 1 {
				add(api.Action{Kind: api.DoPut, X: x, Op: op, L: l})
				for _, r := range operands {
					add(api.Action{Kind: api.DoPut, X: x, Op: op, L: l, R: r})
				}
			}
			for _, r := range operands {
				add(api.Action{Kind: api.DoTest, Op: op, L: l, R: r})
				add(api.Action{Kind: api.DoTest, Op: op, L: l, R: r, Sense: true})
			}
		}
	}
	return append(all, api.Action{Kind: api.DoPick, Sense: true}, api.Action{Kind: api.DoPick, At: 65536}, api.Action{Kind: api.DoSkip, At: 65537})
}

// inputs are inputs of any kind.
var inputs = []int{0, 1, -1, 2, math.MinInt, math.MaxInt}

// All calls on all small states, with all actions.
func TestAllSmallStates(t *testing.T) {
	for _, c := range []struct {
		g     api.Graph
		cells int
	}{
		{api.Graph{Points: 3}, 0},
		{api.Graph{Points: 2, Ints: 2}, 0},
		{api.Graph{Points: 2, Vars: 1, Structs: 1}, 3},
		{api.Graph{Points: 2, Vars: 2, Ints: 1, Structs: 1, Fields: make([]api.Field, 1)}, 2},
		{api.Graph{Points: 3, Vars: 1, Structs: 1, Fields: make([]api.Field, 2)}, 2},
		{api.Graph{Points: 3, Vars: 1, Structs: 2, Fields: make([]api.Field, 2)}, 1},
	} {
		for cells := range c.cells + 1 {
			actions := allActions(c.g)
			for i, s := range allStates(c.g, cells) {
				if !state.Right(c.g, s) {
					t.Fatalf("%v is not right", s)
				}
				for j, a := range actions {
					hold(t, c.g, s, a, inputs[(i+j)%len(inputs)])
				}
				if t.Failed() {
					t.FailNow()
				}
			}
		}
	}
}

// P15.4: Leaks of all small heaps.
func TestAllSmallHeaps(t *testing.T) {
	for _, c := range []struct {
		vars, fields, cells int
	}{
		{0, 1, 3}, {1, 1, 4}, {2, 1, 3}, {0, 2, 2}, {1, 2, 2}, {2, 2, 2}, {1, 0, 4},
	} {
		g := api.Graph{Points: 1, Vars: c.vars, Structs: 1, Fields: make([]api.Field, c.fields)}
		for _, s := range allStates(g, c.cells) {
			if leaks, want := state.Leaks(g, s), modelLeaks(g, s); !slices.Equal(leaks, want) {
				t.Fatalf("Leaks of %v: %v, want %v", s, leaks, want)
			}
		}
	}
}

// broken tells states that are as s, but for one number or the end of one list.
func broken(s api.State) []api.State {
	var all []api.State
	with := func(change func(s *api.State)) {
		b := twin(s)
		change(&b)
		all = append(all, b)
	}
	numbers := []int{math.MinInt, math.MinInt + 1, -1, 0, 1, 2, 3, 4, math.MaxInt32, math.MaxInt}
	for _, n := range numbers {
		with(func(s *api.State) { s.Point = n })
		for i := range s.Vars {
			with(func(s *api.State) { s.Vars[i] = n })
		}
		for i := range s.Ints {
			with(func(s *api.State) { s.Ints[i] = n })
		}
		for i := range s.Cells {
			with(func(s *api.State) { s.Cells[i].Type = n })
			with(func(s *api.State) { s.Cells[i].Freed = !s.Cells[i].Freed })
			with(func(s *api.State) { s.Cells[i].To = append(s.Cells[i].To, n) })
			with(func(s *api.State) { s.Cells[i].To = s.Cells[i].To[:max(0, len(s.Cells[i].To)-1)] })
			for j := range s.Cells[i].To {
				with(func(s *api.State) { s.Cells[i].To[j] = n })
			}
		}
		with(func(s *api.State) { s.Vars = append(s.Vars, n) })
		with(func(s *api.State) { s.Ints = append(s.Ints, n) })
		with(func(s *api.State) { s.Cells = append(s.Cells, api.Cell{Type: n}) })
		with(func(s *api.State) { s.Cells = append(s.Cells, api.Cell{To: []int{0, n}}) })
	}
	with(func(s *api.State) { s.Vars = s.Vars[:max(0, len(s.Vars)-1)] })
	with(func(s *api.State) { s.Ints = s.Ints[:max(0, len(s.Ints)-1)] })
	with(func(s *api.State) { s.Cells = s.Cells[:max(0, len(s.Cells)-1)] })
	with(func(s *api.State) { s.Vars = nil })
	with(func(s *api.State) { s.Ints = nil })
	with(func(s *api.State) { s.Cells = nil })
	return all
}

// All calls on states that may not be right, and on graphs that may not be.
func TestStatesThatAreNotRight(t *testing.T) {
	g := api.Graph{Points: 3, Vars: 2, Ints: 1, Structs: 2, Fields: make([]api.Field, 2)}
	s := api.State{Point: 1, Vars: []int{1, 2}, Ints: []int{4}, Cells: []api.Cell{{Type: 1, To: []int{3, 1}}, {Type: 0, Freed: true, To: []int{0, 0}}, {Type: 1, To: []int{0, 2}}}}
	graphs := []api.Graph{g, {}}
	for _, n := range []int{math.MinInt, -1, 0, 1, 2, 3, 23, 24, 25, math.MaxInt} {
		for _, change := range []func(*api.Graph){
			func(g *api.Graph) { g.Points = n },
			func(g *api.Graph) { g.Vars = n },
			func(g *api.Graph) { g.Ints = n },
			func(g *api.Graph) { g.Structs = n },
			func(g *api.Graph) { g.Fields = make([]api.Field, max(0, min(n, 30))) },
			func(g *api.Graph) { g.Start, g.End, g.EndAt, g.Heads = n, n, n, []int{n} },
		} {
			other := g
			change(&other)
			graphs = append(graphs, other)
		}
	}
	actions := []api.Action{{}, {Kind: api.DoNull, X: 1}, {Kind: api.DoCopy, Y: 1}, {Kind: api.DoLoad, X: 1, Y: 0, F: 1}, {Kind: api.DoLink, Y: 1}, {Kind: api.DoFree, X: 1}, {Kind: api.DoNew, T: 1}, {Kind: api.DoTake}, {Kind: api.DoPut, Op: 1, L: api.Operand{Var: -1, N: 3}}, {Kind: api.DoSame, Sense: true}}
	right := map[bool]int{}
	for i, h := range graphs {
		for j, b := range append(broken(s), s, api.State{}, state.Begin(h)) {
			right[modelRight(h, b)]++
			for k, a := range actions {
				hold(t, h, b, a, inputs[(i+j+k)%len(inputs)])
			}
		}
		if t.Failed() {
			t.FailNow()
		}
	}
	if right[true] < 500 || right[false] < 5000 {
		t.Errorf("the states are too much alike: %v", right)
	}
}

// lot draws numbers, the same ones each time.
type lot uint64

func (s *lot) below(n int) int {
	*s = *s*6364136223846793005 + 1442695040888963407
	return int(uint64(*s>>33) % uint64(n))
}

// number draws a number for sums, often at an end.
func (s *lot) number() int {
	return []int{0, 1, -1, s.below(10), math.MaxInt - s.below(3), math.MinInt + s.below(3), s.below(999999999)}[s.below(7)]
}

// operand draws an operand.
func (s *lot) operand(ints int) api.Operand {
	if s.below(2) == 0 || ints == 0 {
		return api.Operand{Var: -1, N: s.below(999999999 + 1)}
	}
	return api.Operand{Var: s.below(ints)}
}

// action draws an action of g, now and then one that it does not have.
func (s *lot) action(g api.Graph) api.Action {
	a := api.Action{Kind: s.below(13), At: s.below(65537)}
	x, y, f := s.below(g.Vars+1), s.below(g.Vars), s.below(max(1, len(g.Fields)))
	if s.below(20) > 0 {
		x = min(x, g.Vars-1)
	}
	switch a.Kind {
	case api.DoNull, api.DoFree:
		a.X = x
	case api.DoCopy:
		a.X, a.Y = x, y
	case api.DoLoad, api.DoLink:
		a.X, a.Y, a.F = x, y, f
	case api.DoCut:
		a.X, a.F = x, f
	case api.DoNew:
		a.X, a.T = x, s.below(g.Structs)
	case api.DoSame:
		a.X, a.Y, a.Sense = x-1, y-1, s.below(2) == 0
	case api.DoPick:
		a.Sense = s.below(2) == 0
	case api.DoTake:
		a.X = s.below(max(1, g.Ints))
	case api.DoPut:
		a.X, a.Op, a.L = s.below(max(1, g.Ints)), s.below(3), s.operand(g.Ints)
		if a.Op > 0 {
			a.R = s.operand(g.Ints)
		}
	case api.DoTest:
		a.Op, a.L, a.R, a.Sense = s.below(2), s.operand(g.Ints), s.operand(g.Ints), s.below(2) == 0
	}
	return a
}

// P15.5: long rows of actions: states stay right, and errors change nothing.
func TestLongRows(t *testing.T) {
	seen := map[string]int{}
	for seed := range 300 {
		s := lot(seed * 7919)
		g := api.Graph{Points: 1 + s.below(2000), Vars: 1 + s.below(24), Ints: s.below(25), Structs: 1 + s.below(8), Fields: make([]api.Field, s.below(10))}
		g.Start = s.below(g.Points)
		now := state.Begin(g)
		for range 60 + 240*(seed%2) {
			a, in := s.action(g), s.number()
			if s.below(2) == 0 {
				in = s.below(3)
			}
			then, event := hold(t, g, now, a, in)
			if t.Failed() {
				t.Fatalf("row %d", seed)
			}
			if !state.Right(g, then) {
				t.Fatalf("row %d: %v does not stay right", seed, then)
			}
			if !graph.Has(g, a) {
				seen["nothing"]++
				continue
			}
			seen[fmt.Sprintf("%d: %d %d", a.Kind, event.Kind, min(event.N, 4))]++
			if then.Point != g.Start {
				t.Fatalf("row %d: the point is %d, want %d", seed, then.Point, g.Start)
			}
			seen["leaks"] += len(state.Leaks(g, then))
			now = then
		}
	}
	for _, what := range []string{"0: 0 0", "1: 0 0", "2: 0 0", "3: 0 0", "3: 3 1", "3: 3 2", "4: 0 0", "4: 3 1", "4: 3 2", "5: 0 0", "5: 3 1", "5: 3 2", "6: 1 0", "6: 1 1", "7: 2 1", "7: 2 4", "7: 3 1", "7: 3 3", "8: 0 0", "9: 0 0", "10: 0 0", "11: 0 0", "12: 0 0", "leaks", "nothing"} {
		if seen[what] < 20 {
			t.Errorf("the rows have too few of %s: %v", what, seen)
		}
	}
}

// A long list, built and freed, is as it should be.
func TestManyCells(t *testing.T) {
	g := api.Graph{Points: 1, Vars: 3, Structs: 1, Fields: make([]api.Field, 2)}
	s := state.Begin(g)
	do := func(kind, x, y, f int) {
		t.Helper()
		s, _ = state.Do(g, s, api.Action{Kind: kind, X: x, Y: y, F: f}, 1)
	}
	const many = 1500
	for range many {
		do(api.DoNew, 1, 0, 0)
		do(api.DoLink, 1, 0, 1)
		do(api.DoCopy, 0, 1, 0)
	}
	do(api.DoNull, 1, 0, 0)
	if len(s.Cells) != many || len(state.Leaks(g, s)) != 0 {
		t.Fatalf("%d cells, %d leaks", len(s.Cells), len(state.Leaks(g, s)))
	}
	for range 500 {
		do(api.DoLoad, 1, 0, 1)
		do(api.DoFree, 0, 0, 0)
		do(api.DoCopy, 0, 1, 0)
	}
	if s.Vars[0] != 1000 || len(state.Leaks(g, s)) != 0 {
		t.Fatalf("at %d, %d leaks", s.Vars[0], len(state.Leaks(g, s)))
	}
	do(api.DoNull, 0, 0, 0)
	do(api.DoNull, 1, 0, 0)
	leaks := state.Leaks(g, s)
	for i, c := range leaks {
		if c != i+1 {
			t.Fatalf("leak %d is %d", i, c)
		}
	}
	if len(leaks) != 1000 {
		t.Errorf("%d leaks", len(leaks))
	}
}
