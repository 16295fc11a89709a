package run_test

import (
	"fmt"
	"math"
	"slices"
	"testing"

	"umbral/api"
	"umbral/graph"
	"umbral/run"
)

// lot draws numbers, the same ones each time.
type lot uint64

func (s *lot) below(n int) int {
	*s = *s*6364136223846793005 + 1442695040888963407
	return int(uint64(*s>>33) % uint64(n))
}

// operand draws an operand; many are small, so that tests hold now and then.
func (s *lot) operand(ints int) api.Operand {
	if ints == 0 || s.below(2) == 0 {
		return api.Operand{Var: -1, N: []int{0, 1, 2, 999999999}[s.below(4)]}
	}
	return api.Operand{Var: s.below(ints)}
}

// deed draws an action of g that is no Branch.
func (s *lot) deed(g api.Graph) api.Action {
	a := api.Action{At: s.below(65537)}
	x, y, f := s.below(g.Vars), s.below(g.Vars), s.below(max(1, len(g.Fields)))
	kinds := []int{0, 1, 2, 2, 6, 6, 6, 7, 7}
	if len(g.Fields) > 0 {
		kinds = append(kinds, 3, 3, 3, 4, 5, 5, 5, 5)
	}
	if g.Ints > 0 {
		kinds = append(kinds, 10, 11, 11)
	}
	switch a.Kind = kinds[s.below(len(kinds))]; a.Kind {
	case api.DoNull, api.DoFree:
		a.X = x
	case api.DoCopy:
		a.X, a.Y = x, y
	case api.DoLoad, api.DoLink:
		a.X, a.Y, a.F = x, y, f
	case api.DoCut:
		a.X, a.F = x, f
	case api.DoNew:
		a.X, a.T = x, s.below(g.Structs)
	case api.DoTake:
		a.X = s.below(g.Ints)
	case api.DoPut:
		a.X, a.Op, a.L = s.below(g.Ints), s.below(3), s.operand(g.Ints)
		if a.Op > 0 {
			a.R = s.operand(g.Ints)
		}
	}
	return a
}

// branch draws a Branch of g.
func (s *lot) branch(g api.Graph) api.Action {
	a := api.Action{At: s.below(65537), Sense: s.below(2) == 0}
	switch s.below(4) {
	case 0, 1:
		a.Kind, a.X, a.Y = api.DoSame, s.below(g.Vars+1)-1, s.below(g.Vars+1)-1
	case 2:
		a.Kind = api.DoPick
	case 3:
		a.Kind, a.Op, a.L, a.R = api.DoTest, s.below(2), s.operand(g.Ints), s.operand(g.Ints)
	}
	return a
}

// graph draws a graph that is Right: from point to point mostly onwards, and a Head wherever an edge leads back. Many begin with new cells, so that runs come further.
func (s *lot) graph() api.Graph {
	g := api.Graph{Points: 2 + s.below(25), EndAt: s.below(65537), Vars: 1 + s.below(4), Ints: s.below(3), Structs: 1 + s.below(2), Fields: make([]api.Field, s.below(4))}
	g.Start, g.End = s.below(g.Points), s.below(g.Points)
	cells := s.below(3) * g.Vars
	for point := range g.Points {
		to := func() int {
			if s.below(3) > 0 {
				return (point + 1) % g.Points
			}
			return s.below(g.Points)
		}
		switch behind := (point - g.Start + g.Points) % g.Points; {
		case point == g.End:
		case behind < cells:
			g.Edges = append(g.Edges, api.Edge{From: point, To: (point + 1) % g.Points, Act: api.Action{Kind: api.DoNew, X: behind % g.Vars, T: s.below(g.Structs), At: point}})
		case s.below(4) == 0:
			a := s.branch(g)
			not := a
			not.Sense = !a.Sense
			g.Edges = append(g.Edges, api.Edge{From: point, To: to(), Act: a}, api.Edge{From: point, To: to(), Act: not})
		default:
			g.Edges = append(g.Edges, api.Edge{From: point, To: to(), Act: s.deed(g)})
		}
	}
	for i := range g.Edges {
		k := i + s.below(len(g.Edges)-i)
		g.Edges[i], g.Edges[k] = g.Edges[k], g.Edges[i]
		if e := g.Edges[i]; e.To <= e.From {
			g.Heads = append(g.Heads, e.To)
		}
	}
	slices.Sort(g.Heads)
	g.Heads = slices.Compact(g.Heads)
	return g
}

// script draws inputs.
func (s *lot) script() []int {
	var script []int
	for range s.below(40) {
		script = append(script, []int{0, 0, 1, 1, 1, 1, 1, 2, -1, math.MinInt, math.MaxInt}[s.below(11)])
	}
	return script
}

// P16.1, P16.2: runs by lot are as the model has them.
func TestRunsByLot(t *testing.T) {
	seen := map[string]int{}
	for seed := range 4000 {
		s := lot(seed * 7919)
		g := s.graph()
		if !graph.Right(g) {
			t.Fatalf("graph %d is not right:\n%s", seed, graph.Text(g))
		}
		for range 4 {
			r := hold(t, g, s.script(), s.below(150)-2)
			seen[fmt.Sprint("stand ", r.Stand)]++
			for _, e := range r.Events {
				if e.Kind == api.EvError {
					seen[fmt.Sprint("error ", e.N)]++
				}
			}
			if r.Steps > 30 {
				seen["long"]++
			}
			if len(r.State.Cells) > 5 {
				seen["many"]++
			}
		}
		if t.Failed() {
			t.Fatalf("graph %d", seed)
		}
	}
	for _, what := range []string{"stand 0", "stand 1", "stand 2", "stand 3", "error 1", "error 2", "error 3", "error 4", "long", "many"} {
		if seen[what] < 40 {
			t.Errorf("the runs have too few of %s: %v", what, seen)
		}
	}
}

// onwards tells whether longer does what shorter does, and goes on, or is the same.
func onwards(shorter, longer run.Result) bool {
	return len(shorter.Events) <= len(longer.Events) && slices.Equal(shorter.Events, longer.Events[:len(shorter.Events)]) && shorter.Used <= longer.Used && shorter.Steps <= longer.Steps
}

// P16.3, P16.4: with more fuel, or more inputs, a run does the same, and goes on; not if it has Failed or Halted.
func TestMoreByLot(t *testing.T) {
	grown := map[string]int{}
	for seed := range 1500 {
		s := lot(seed * 104729)
		g, script, fuel := s.graph(), s.script(), s.below(60)
		r := run.Run(g, script, fuel)
		states := slices.Collect(run.Watch(g, script, fuel))
		for _, more := range []int{1, 2, 1 + s.below(60), math.MaxInt - fuel} {
			for _, inputs := range [][]int{nil, {0}, {1}, append(s.script(), 1)} {
				if more > 1000 && len(inputs) > 1 {
					continue
				}
				longer := append(slices.Clone(script), inputs...)
				both, onlyFuel, onlyInputs := run.Run(g, longer, fuel+min(more, 500)), run.Run(g, script, fuel+min(more, 500)), run.Run(g, longer, fuel)
				for _, other := range []run.Result{both, onlyFuel, onlyInputs} {
					if !onwards(r, other) || (r.Stand == api.Failed || r.Stand == api.Halted) && !sameResult(r, other) {
						t.Fatalf("run %d: %+v, and then %+v", seed, r, other)
					}
				}
				switch {
				case r.Stand == api.Going && (!sameResult(onlyInputs, r) || onlyFuel.Steps == r.Steps && onlyFuel.Stand == api.Going):
					t.Fatalf("run %d, which was going: %+v, and then %+v, %+v", seed, r, onlyInputs, onlyFuel)
				case r.Stand == api.Dry && (!sameResult(onlyFuel, r) || len(inputs) > 0 && onlyInputs.Used <= r.Used):
					t.Fatalf("run %d, which was dry: %+v, and then %+v, %+v", seed, r, onlyFuel, onlyInputs)
				}
				i := 0
				for other := range run.Watch(g, longer, fuel+min(more, 500)) {
					if i < len(states) && !alike(states[i], other) {
						t.Fatalf("run %d: state %d is %v, and then %v", seed, i, states[i], other)
					}
					i++
				}
				if i != both.Steps+1 || i < len(states) {
					t.Fatalf("run %d: %d states, and then %d, of %d steps", seed, len(states), i, both.Steps)
				}
				if both.Steps > r.Steps {
					grown[fmt.Sprint(r.Stand)]++
				} else {
					grown[fmt.Sprint("still ", r.Stand)]++
				}
			}
		}
	}
	for _, what := range []string{"0", "1", "still 1", "still 2", "still 3"} {
		if grown[what] < 100 {
			t.Errorf("too few runs of %s: %v", what, grown)
		}
	}
}

// R1: graphs that may be anything end, and tell nothing unless they are Right.
func TestAnyGraphsByLot(t *testing.T) {
	numbers := []int{math.MinInt, -1, 0, 1, 2, 3, 9, 24, 2000, 2001, math.MaxInt}
	right := 0
	for seed := range 20000 {
		s := lot(seed * 15485863)
		g := s.graph()
		for range 1 + s.below(2) {
			n := numbers[s.below(len(numbers))]
			e := &g.Edges
			switch s.below(12) {
			case 0:
				g.Points = n
			case 1:
				g.Start = n
			case 2:
				g.End = n
			case 3:
				g.EndAt = n
			case 4:
				g.Vars, g.Ints = n, numbers[s.below(len(numbers))]
			case 5:
				g.Structs = n
			case 6:
				g.Fields = append(g.Fields, api.Field{Owner: n})
			case 7:
				g.Heads = append(g.Heads, n)
			case 8:
				*e = append(*e, api.Edge{From: n, To: s.below(9), Act: s.deed(s.graph())})
			case 9:
				// One edge at least is left.
				*e = (*e)[s.below(len(*e)):]
			case 10:
				(*e)[s.below(len(*e))].To = n
			case 11:
				(*e)[s.below(len(*e))].Act.X = n
			}
		}
		if graph.Right(g) {
			right++
		}
		hold(t, g, s.script(), s.below(60)-1)
		if t.Failed() {
			t.Fatalf("graph %d", seed)
		}
	}
	if right < 2000 || right > 18000 {
		t.Errorf("%d graphs are right", right)
	}
}
