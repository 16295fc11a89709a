package run_test

import (
	"math"
	"slices"
	"testing"

	"umbral/api"
	"umbral/graph"
	"umbral/run"
)

func TestExamples(t *testing.T) {
	want(t, api.Graph{Points: 1, EndAt: 5}, nil, 10, run.Result{Stand: api.Halted, Events: []api.Event{{Kind: api.EvHalt, At: 5}}})
	want(t, lowered(t, "void main() { }"), nil, 0, run.Result{Stand: api.Halted, Events: []api.Event{{Kind: api.EvHalt, At: 14}}})
}

// The examples of the whole, with room for each cell, and with none for any.
func TestExamplesOfTheWhole(t *testing.T) {
	for _, c := range []struct {
		text   string
		script []int
		stand  int
		kinds  []int // of the events, and of an error its own behind it
	}{
		{"void main() { }", nil, api.Halted, []int{4}},
		{"void main() { x = new t; x->n = null; x = null; }", []int{0}, api.Failed, []int{1, 3, 1}},
		{"void main() { x = new t; x->n = null; x = null; }", []int{1}, api.Failed, []int{1, 3, 4}},
		{"void main() { x = new t; if (x != null) { free(x); } }", []int{0}, api.Halted, []int{1, 4}},
		{"void main() { x = new t; if (x != null) { free(x); } }", []int{1}, api.Halted, []int{1, 2, 4}},
		{"void main() { x = new t; if (x != null) { free(x); free(x); } }", []int{0}, api.Halted, []int{1, 4}},
		{"void main() { x = new t; if (x != null) { free(x); free(x); } }", []int{1}, api.Failed, []int{1, 2, 3, 3}},
		{"void main() { x = new t; if (x != null) { free(x); y = x->n; } }", []int{1}, api.Failed, []int{1, 2, 3, 2}},
		{"void main() { while (?) { y = new t; if (y != null) { y->n = x; x = y; } } }", []int{1, 1, 1, 1, 1, 0, 0}, api.Halted, []int{1, 1, 1, 4}},
		{"void main() { while (?) { y = new t; if (y != null) { y->n = x; x = y; } } }", []int{1, 1, 1}, api.Dry, []int{1}},
	} {
		g := lowered(t, "struct t { t* n; } t* x; t* y; "+c.text)
		r := hold(t, g, c.script, 1000)
		var kinds []int
		for _, e := range r.Events {
			kinds = append(kinds, e.Kind)
			if e.Kind == api.EvError {
				kinds = append(kinds, e.N)
			}
		}
		if r.Stand != c.stand || !slices.Equal(kinds, c.kinds) {
			t.Errorf("%s with %v: %d, %v, want %d, %v", c.text, c.script, r.Stand, kinds, c.stand, c.kinds)
		}
	}
}

// P16.1, P16.2: of graphs that are not Right a zero Result, and no states.
func TestGraphsThatAreNotRight(t *testing.T) {
	g := row(t, "new p0 s0 @1", "skip @2", "free p0 @3")
	if !graph.Right(g) {
		t.Fatal("the graph is not right")
	}
	wrong := []api.Graph{{}}
	with := func(change func(g *api.Graph)) {
		other := g
		other.Edges, other.Fields = slices.Clone(g.Edges), slices.Clone(g.Fields)
		change(&other)
		if graph.Right(other) {
			t.Fatalf("the graph %v is right", other)
		}
		wrong = append(wrong, other)
	}
	for _, n := range []int{math.MinInt, -1, math.MaxInt} {
		with(func(g *api.Graph) { g.Points = n })
		with(func(g *api.Graph) { g.Start = n })
		with(func(g *api.Graph) { g.End = n })
		with(func(g *api.Graph) { g.EndAt = n })
		with(func(g *api.Graph) { g.Vars = n })
		with(func(g *api.Graph) { g.Ints = n })
		with(func(g *api.Graph) { g.Structs = n })
		with(func(g *api.Graph) { g.Heads = []int{n} })
		with(func(g *api.Graph) { g.Fields[1].Owner = n })
		with(func(g *api.Graph) { g.Edges[1].From = n })
		with(func(g *api.Graph) { g.Edges[1].To = n })
		with(func(g *api.Graph) { g.Edges[1].Act.Kind = n })
		with(func(g *api.Graph) { g.Edges[0].Act.T = n })
	}
	with(func(g *api.Graph) { g.Points = 2001 })
	with(func(g *api.Graph) { g.Fields = make([]api.Field, 9) })
	with(func(g *api.Graph) { g.Edges = g.Edges[:2] })
	with(func(g *api.Graph) { g.Edges = g.Edges[1:] })
	with(func(g *api.Graph) { g.Edges = append(g.Edges, g.Edges[0]) })
	with(func(g *api.Graph) { g.Edges = append(g.Edges, api.Edge{From: 3, To: 0}) })
	with(func(g *api.Graph) { g.Edges[2].To = 0 }) // a circle without a Head
	with(func(g *api.Graph) { g.Edges[0].Act = api.Action{Kind: api.DoPick} })
	with(func(g *api.Graph) { g.Edges = slices.Repeat(g.Edges, 2000) })
	for _, g := range wrong {
		for _, script := range [][]int{nil, {1}, {0, 0, 0}} {
			for _, fuel := range []int{math.MinInt, 0, 5, math.MaxInt} {
				if got := run.Run(g, script, fuel); !sameResult(got, run.Result{}) || got.State.Vars != nil || got.Events != nil {
					t.Errorf("Run of %v: %+v", g, got)
				}
				for s := range run.Watch(g, script, fuel) {
					t.Errorf("Watch of %v tells %v", g, s)
				}
			}
		}
	}
}

// P16.1: as many steps as fuel is, none of fuel below 0; End is ahead of the fuel, and the fuel ahead of the inputs.
func TestFuel(t *testing.T) {
	g := row(t, "skip @1", "take i0 @2", "take i1 @3")
	ints := [][]int{{0, 0}, {0, 0}, {7, 0}, {7, 8}}
	state := func(steps int) api.State {
		return api.State{Point: steps, Vars: []int{0, 0}, Ints: ints[steps]}
	}
	halted := run.Result{Stand: api.Halted, State: state(3), Events: []api.Event{{Kind: api.EvHalt, At: 99}}, Used: 2, Steps: 3}
	for fuel, steps := range map[int]int{math.MinInt: 0, math.MinInt + 1: 0, -api.MaxFuel: 0, -1: 0, 0: 0, 1: 1, 2: 2} {
		want(t, g, []int{7, 8}, fuel, run.Result{Stand: api.Going, State: state(steps), Used: max(0, steps-1), Steps: steps})
		// Where the script is empty the fuel still is ahead of it.
		want(t, g, []int{7, 8}[:max(0, steps-1)], fuel, run.Result{Stand: api.Going, State: state(steps), Used: max(0, steps-1), Steps: steps})
	}
	for _, fuel := range []int{3, 4, 100, api.MaxFuel - 1, api.MaxFuel, api.MaxFuel + 1, math.MaxInt - 1, math.MaxInt} {
		want(t, g, []int{7, 8}, fuel, halted)
		want(t, g, []int{7}, fuel, run.Result{Stand: api.Dry, State: state(2), Used: 1, Steps: 2})
	}
	for _, fuel := range []int{math.MinInt, -1, 0, 1, math.MaxInt} {
		g := api.Graph{Points: 3, Start: 2, End: 2, EndAt: 8}
		want(t, g, nil, fuel, run.Result{Stand: api.Halted, State: api.State{Point: 2}, Events: []api.Event{{Kind: api.EvHalt, At: 8}}})
	}
}

// P16.1, P16.2: no more than MaxFuel steps are taken.
func TestFuelPastMaxFuel(t *testing.T) {
	// 0 counts, 1 asks whether that's enough, which it never is.
	g := api.Graph{Points: 3, End: 2, Ints: 1, Heads: []int{0}, Edges: edges(t, "0 1 put i0 i0 + 1 @1", "1 2 test i0 < 0 yes @2", "1 0 test i0 < 0 no @2")}
	if !graph.Right(g) {
		t.Fatal("the graph is not right")
	}
	for fuel, steps := range map[int]int{1 << 15: 1 << 15, 1<<20 - 1: 1<<20 - 1, 1 << 20: 1 << 20, 1<<20 + 1: 1 << 20, math.MaxInt: 1 << 20} {
		so := run.Result{Stand: api.Going, State: api.State{Point: steps % 2, Ints: []int{(steps + 1) / 2}}, Steps: steps}
		if got := run.Run(g, nil, fuel); !sameResult(got, so) {
			t.Errorf("Run with fuel %d: %+v, want %+v", fuel, got, so)
		}
	}
	states := 0
	for s := range run.Watch(g, nil, math.MaxInt) {
		if !alike(s, api.State{Point: states % 2, Ints: []int{(states + 1) / 2}}) {
			t.Fatalf("state %d: %v", states, s)
		}
		states++
	}
	if states != 1<<20+1 {
		t.Errorf("Watch tells %d states", states)
	}
}

// P16.1: at End, with and without Leaks; the end is no step.
func TestEnd(t *testing.T) {
	halt, leak := api.Event{Kind: api.EvHalt, At: 99}, api.Event{Kind: api.EvError, At: 99, N: api.ByLeak}
	for _, c := range []struct {
		acts  []string
		last  api.Event
		stand int
	}{
		{nil, halt, api.Halted},
		{[]string{"new p0 s0 @1"}, halt, api.Halted},
		{[]string{"new p1 s0 @1", "copy p0 p1 @2", "null p1 @2"}, halt, api.Halted},
		{[]string{"new p0 s0 @1", "null p0 @2"}, leak, api.Failed},
		{[]string{"new p0 s0 @1", "new p0 s0 @1"}, leak, api.Failed},
		{[]string{"new p0 s0 @1", "free p0 @2", "null p0 @3"}, halt, api.Halted},
		{[]string{"new p0 s0 @1", "new p1 s0 @1", "link p0 f1 p1 @2", "null p1 @3"}, halt, api.Halted},
		{[]string{"new p0 s0 @1", "new p1 s0 @1", "link p0 f1 p1 @2", "null p0 @3"}, leak, api.Failed},
		{[]string{"new p0 s0 @1", "new p1 s0 @1", "link p0 f1 p1 @2", "null p1 @3", "free p0 @4"}, leak, api.Failed},
		{[]string{"new p0 s0 @1", "new p1 s0 @1", "link p0 f0 p1 @2", "link p1 f0 p0 @2", "null p1 @3"}, halt, api.Halted},
		{[]string{"new p0 s0 @1", "new p1 s0 @1", "link p0 f0 p1 @2", "link p1 f0 p0 @2", "null p1 @3", "null p0 @3"}, leak, api.Failed},
	} {
		g := row(t, c.acts...)
		for _, at := range []int{0, 1, 99, 65536} {
			g.EndAt, c.last.At = at, at
			for _, fuel := range []int{len(c.acts), len(c.acts) + 1, math.MaxInt} {
				got := hold(t, g, []int{1, 1, 1}, fuel)
				if got.Stand != c.stand || got.Steps != len(c.acts) || got.State.Point != g.End || len(got.Events) == 0 || got.Events[len(got.Events)-1] != c.last {
					t.Errorf("the end of %v: %+v, want %v", c.acts, got, c.last)
				}
			}
			// One step ahead of End nothing is seen of it.
			if got := hold(t, g, []int{1, 1, 1}, len(c.acts)-1); len(c.acts) > 0 && (got.Stand != api.Going || slices.Contains(got.Events, c.last)) {
				t.Errorf("ahead of the end of %v: %+v", c.acts, got)
			}
		}
	}
}

// P16.1: of two edges the first one that holds, in both orders and of both Senses; of one edge that one.
func TestEdges(t *testing.T) {
	for _, c := range []struct {
		begin []string // what is done first
		ask   string   // the branch that is held to be so
		yes   bool
	}{
		{[]string{"null p0 @0"}, "same p0 p1", true},
		{[]string{"new p0 s0 @0"}, "same p0 p1", false},
		{[]string{"new p0 s0 @0"}, "same p0 p0", true},
		{[]string{"new p0 s0 @0"}, "same p0 null", false},
		{[]string{"new p0 s0 @0"}, "same null p1", true},
		{[]string{"new p0 s0 @0", "copy p1 p0 @0"}, "same p0 p1", true},
		{[]string{"take i0 @0"}, "test i0 == 1", true},
		{[]string{"take i0 @0"}, "test i0 == i1", false},
		{[]string{"take i0 @0"}, "test i0 < 2", true},
		{[]string{"take i0 @0"}, "test i0 < 1", false},
		{[]string{"take i0 @0"}, "test 0 < i0", true},
		{[]string{"take i0 @0", "put i1 i0 - 2 @0"}, "test i1 < 0", true},
	} {
		base := row(t, c.begin...)
		at := base.End
		for order, senses := range [][2]string{{" yes @4", " no @4"}, {" no @4", " yes @4"}} {
			g := base
			g.Points, g.End = at+4, at+3
			g.Edges = append(slices.Clone(base.Edges),
				api.Edge{From: at, To: at + 1, Act: must(t, c.ask+senses[0])},
				api.Edge{From: at, To: at + 2, Act: must(t, c.ask+senses[1])},
				api.Edge{From: at + 1, To: at + 3, Act: must(t, "put i0 100 @5")},
				api.Edge{From: at + 2, To: at + 3, Act: must(t, "put i0 200 @6")})
			by := 100
			if c.yes != (order == 0) {
				by = 200
			}
			got := hold(t, g, []int{1}, 100)
			if got.Steps != len(c.begin)+2 || got.State.Ints[0] != by || got.Stand != api.Halted {
				t.Errorf("%v, then %q of %v: %+v, want %d", c.begin, c.ask, senses, got, by)
			}
		}
	}
}

// picks is a graph that takes a number, and goes by whether an input is not 0.
func picks(t *testing.T, first, second string) api.Graph {
	return api.Graph{Points: 3, Start: 2, End: 1, EndAt: 6, Ints: 1, Heads: []int{0}, Edges: edges(t, "0 "+first+" @5", "2 0 take i0 @3", "0 "+second+" @5")}
}

// P16.1: a pick goes on by its input, be it the first edge or the second one.
func TestPick(t *testing.T) {
	for _, g := range []api.Graph{picks(t, "0 pick yes", "1 pick no"), picks(t, "1 pick no", "0 pick yes")} {
		for _, yes := range []int{1, -1, 2, math.MinInt, math.MaxInt} {
			for rounds := range 4 {
				script := append([]int{yes}, slices.Repeat([]int{yes}, rounds)...)
				want(t, g, script, 100, run.Result{Stand: api.Dry, State: api.State{Point: 0, Ints: []int{yes}}, Used: rounds + 1, Steps: rounds + 1})
				script = append(script, 0, 5, 6)
				want(t, g, script, 100, run.Result{Stand: api.Halted, State: api.State{Point: 1, Ints: []int{yes}}, Events: []api.Event{{Kind: api.EvHalt, At: 6}}, Used: rounds + 2, Steps: rounds + 2})
			}
		}
		want(t, g, nil, 100, run.Result{Stand: api.Dry, State: api.State{Point: 2, Ints: []int{0}}})
		want(t, g, []int{0}, 1, run.Result{Stand: api.Going, State: api.State{Point: 0, Ints: []int{0}}, Used: 1, Steps: 1})
		want(t, g, []int{0}, 2, run.Result{Stand: api.Dry, State: api.State{Point: 0, Ints: []int{0}}, Used: 1, Steps: 1})
	}
}

// P16.1: which actions use an input, and which go on without one.
func TestNeeds(t *testing.T) {
	for _, c := range []struct {
		act  string
		used int
	}{
		{"skip @3", 0}, {"null p0 @3", 0}, {"copy p0 p1 @3", 0}, {"load p0 p1 f0 @3", 0}, {"cut p1 f0 @3", 0}, {"link p1 f1 p1 @3", 0},
		{"new p0 s0 @3", 1}, {"free p1 @3", 0}, {"take i0 @3", 1}, {"put i0 4 @3", 0}, {"put i0 i1 + 2 @3", 0},
	} {
		g := row(t, "new p1 s0 @2", c.act)
		for _, in := range []int{0, 1, -1, math.MinInt, math.MaxInt} {
			for _, script := range [][]int{{1}, {1, in}, {1, in, in}} {
				got := hold(t, g, script, 100)
				used, steps, stand := c.used+1, 2, api.Halted
				if len(script) < used {
					used, steps, stand = 1, 1, api.Dry
				}
				if got.Used != used || got.Steps != steps || got.Stand != stand {
					t.Errorf("%q with %v: %+v, want %d used, %d steps, %d", c.act, script, got, used, steps, stand)
				}
			}
		}
		want(t, g, nil, 100, run.Result{Stand: api.Dry, State: api.State{Vars: []int{0, 0}, Ints: []int{0, 0}}})
	}
}

// P16.1: inputs of any numbers are handed to the action that needs them, one by one.
func TestInputs(t *testing.T) {
	g := row(t, "take i0 @1", "new p0 s0 @2", "take i1 @3", "new p1 s0 @4")
	for _, script := range [][]int{{5, 1, 6, 0}, {0, 0, 0, 0}, {math.MaxInt, -1, math.MinInt, 2}, {-1, math.MinInt, math.MaxInt, math.MaxInt}, {1, 0, 1, 1, 77, 78}} {
		events, vars, ints := []api.Event(nil), []int{0, 0}, []int{0, 0}
		var cells []api.Cell
		for steps := range 5 {
			s := api.State{Point: steps, Vars: slices.Clone(vars), Ints: slices.Clone(ints), Cells: slices.Clone(cells)}
			if steps == 4 {
				want(t, g, script, 100, run.Result{Stand: api.Halted, State: s, Events: append(events, api.Event{Kind: api.EvHalt, At: 99}), Used: 4, Steps: 4})
				break
			}
			want(t, g, script, steps, run.Result{Stand: api.Going, State: s, Events: events, Used: steps, Steps: steps})
			want(t, g, script[:steps], 100, run.Result{Stand: api.Dry, State: s, Events: events, Used: steps, Steps: steps})
			in := script[steps]
			switch {
			case steps%2 == 0:
				ints[steps/2] = in
			case in == 0:
				events = append(events, api.Event{Kind: api.EvNew, At: steps + 1})
			default:
				events = append(events, api.Event{Kind: api.EvNew, At: steps + 1, N: 1})
				cells = append(cells, api.Cell{To: []int{0, 0}})
				vars[steps/2] = len(cells)
			}
		}
	}
}

// P16.1, P16.4: behind an error the run has Failed: Point stays, nothing is changed, and nothing goes on.
func TestErrors(t *testing.T) {
	for _, c := range []struct {
		acts []string // the last one raises the error
		kind int
	}{
		{[]string{"load p0 p1 f0 @7"}, api.ByNull},
		{[]string{"new p0 s0 @1", "load p0 p1 f1 @7"}, api.ByNull},
		{[]string{"cut p0 f0 @7"}, api.ByNull},
		{[]string{"new p0 s0 @1", "link p1 f0 p0 @7"}, api.ByNull},
		{[]string{"free p1 @7"}, api.ByNull},
		{[]string{"new p0 s0 @1", "free p0 @2", "load p1 p0 f0 @7"}, api.ByUse},
		{[]string{"new p0 s0 @1", "free p0 @2", "cut p0 f0 @7"}, api.ByUse},
		{[]string{"new p0 s0 @1", "copy p1 p0 @2", "free p1 @2", "link p0 f0 p1 @7"}, api.ByUse},
		{[]string{"new p0 s0 @1", "free p0 @2", "free p0 @7"}, api.ByTwice},
		{[]string{"new p0 s0 @1", "copy p1 p0 @2", "free p1 @2", "free p0 @7"}, api.ByTwice},
	} {
		g := row(t, append(slices.Clone(c.acts), "take i0 @8", "new p0 s0 @9")...)
		ahead := hold(t, g, []int{1, 1, 1}, len(c.acts)-1)
		if ahead.Stand != api.Going {
			t.Errorf("%v: ahead of its error: %+v", c.acts, ahead)
		}
		so := ahead
		so.Stand, so.Steps, so.Events = api.Failed, len(c.acts), append(slices.Clone(ahead.Events), api.Event{Kind: api.EvError, At: 7, N: c.kind})
		for _, fuel := range []int{len(c.acts), len(c.acts) + 1, 100, math.MaxInt} {
			for more := range 4 {
				script := append(slices.Repeat([]int{1}, ahead.Used), slices.Repeat([]int{1}, more)...)
				want(t, g, script, fuel, so)
			}
		}
		if so.State.Point != len(c.acts)-1 {
			t.Errorf("%v: the error is at %d", c.acts, so.State.Point)
		}
	}
}

// P16.1: events in their order, and the state at last, of a row with one of each kind of action.
func TestEvents(t *testing.T) {
	g := row(t, "new p0 s0 @1", "new p1 s0 @2", "link p0 f1 p1 @3", "new p1 s0 @4", "load p1 p0 f1 @5", "free p1 @6", "cut p0 f1 @7", "copy p1 p0 @8", "take i0 @9", "put i1 i0 - 3 @10", "skip @11", "link p1 f0 p0 @12", "null p0 @13")
	want(t, g, []int{-4, 9, 0, 2, 3}, 13, run.Result{
		Stand: api.Halted,
		State: api.State{Point: 13, Vars: []int{0, 1}, Ints: []int{2, -1}, Cells: []api.Cell{{To: []int{1, 0}}, {Freed: true, To: []int{0, 0}}}},
		Events: []api.Event{
			{Kind: api.EvNew, At: 1, N: 1}, {Kind: api.EvNew, At: 2, N: 1}, {Kind: api.EvNew, At: 4}, {Kind: api.EvFree, At: 6, N: 2}, {Kind: api.EvHalt, At: 99},
		},
		Used: 4, Steps: 13,
	})
}

// P16.1: cells of several structs, with many variables, are what the actions make of them.
func TestManyVariables(t *testing.T) {
	g := row(t, "new p23 s7 @1", "new p22 s3 @2", "link p22 f7 p23 @3", "link p23 f0 p22 @4", "load p0 p23 f0 @5", "load p1 p22 f7 @6", "free p1 @7", "take i23 @8", "put i22 i23 + i23 @9")
	g.Vars, g.Ints, g.Structs, g.Fields = 24, 24, 8, make([]api.Field, 8)
	s := api.State{Point: 9, Vars: make([]int, 24), Ints: make([]int, 24), Cells: []api.Cell{{Type: 7, Freed: true, To: make([]int, 8)}, {Type: 3, To: []int{0, 0, 0, 0, 0, 0, 0, 1}}}}
	s.Vars[0], s.Vars[1], s.Vars[22], s.Vars[23] = 2, 1, 2, 1
	s.Ints[22], s.Ints[23] = -2, math.MaxInt
	want(t, g, []int{1, 1, math.MaxInt}, 100, run.Result{Stand: api.Halted, State: s, Events: []api.Event{{Kind: api.EvNew, At: 1, N: 1}, {Kind: api.EvNew, At: 2, N: 1}, {Kind: api.EvFree, At: 7, N: 1}, {Kind: api.EvHalt, At: 99}}, Used: 3, Steps: 9})
}

// R1: long scripts that make many cells are gone through to their end.
func TestManyCells(t *testing.T) {
	text := "struct t { t* n; t* m; } t* x; t* y; void main() { while (?) { y = new t; y->n = x; y->m = x; x = y; } "
	const many = 100000
	script := slices.Repeat([]int{1}, 2*many+1)
	script[2*many] = 0
	built := run.Run(lowered(t, text+"}"), script, math.MaxInt)
	if built.Stand != api.Halted || built.Used != len(script) || len(built.Events) != many+1 || len(built.State.Cells) != many {
		t.Fatalf("built: %d, %d used, %d events, %d cells", built.Stand, built.Used, len(built.Events), len(built.State.Cells))
	}
	for i, c := range built.State.Cells {
		if !slices.Equal(c.To, []int{i, i}) || c.Freed {
			t.Fatalf("cell %d: %v", i+1, c)
		}
	}
	left := run.Run(lowered(t, text+"x = y->n; free(y); y = null; x = null; }"), script, math.MaxInt)
	if last := left.Events[len(left.Events)-1]; left.Stand != api.Failed || last.Kind != api.EvError || last.N != api.ByLeak || left.Events[many] != (api.Event{Kind: api.EvFree, At: left.Events[many].At, N: many}) {
		t.Errorf("left behind: %d, %v", left.Stand, last)
	}
	going := run.Run(lowered(t, text+"}"), slices.Repeat([]int{1}, 1<<21), math.MaxInt)
	if going.Stand != api.Going || going.Steps != api.MaxFuel || len(going.State.Cells) == 0 {
		t.Errorf("going: %d, %d steps, %d cells", going.Stand, going.Steps, len(going.State.Cells))
	}
}
