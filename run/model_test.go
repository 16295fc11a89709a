package run_test

import (
	"slices"
	"strconv"
	"strings"
	"testing"

	"umbral/action"
	"umbral/api"
	"umbral/graph"
	"umbral/lower"
	"umbral/parse"
	"umbral/run"
)

// The model says again, as the chapters have it, how runs go: cells are boxes that lead to boxes.

type box struct {
	kind  int
	freed bool
	to    map[int]*box
}

type machine struct {
	g      api.Graph
	at     int
	vars   map[int]*box
	ints   map[int]int
	boxes  []*box
	events []api.Event
}

func (m *machine) see(kind, at, n int) {
	m.events = append(m.events, api.Event{Kind: kind, At: at, N: n})
}

// number is a box's number, 0 of none.
func (m *machine) number(b *box) int {
	return slices.Index(m.boxes, b) + 1
}

// state is how the machine is now.
func (m *machine) state() api.State {
	s := api.State{Point: m.at}
	for x := range m.g.Vars {
		s.Vars = append(s.Vars, m.number(m.vars[x]))
	}
	for x := range m.g.Ints {
		s.Ints = append(s.Ints, m.ints[x])
	}
	for _, b := range m.boxes {
		c := api.Cell{Type: b.kind, Freed: b.freed}
		for field := range m.g.Fields {
			c.To = append(c.To, m.number(b.to[field]))
		}
		s.Cells = append(s.Cells, c)
	}
	return s
}

func (m *machine) operand(o api.Operand) int {
	if o.Var == -1 {
		return o.N
	}
	return m.ints[o.Var]
}

func (m *machine) holds(a api.Action, in int) bool {
	var so bool
	switch {
	case a.Kind == api.DoSame:
		so = m.vars[a.X] == m.vars[a.Y]
	case a.Kind == api.DoPick:
		so = in != 0
	case a.Kind == api.DoTest && a.Op == 0:
		so = m.operand(a.L) == m.operand(a.R)
	case a.Kind == api.DoTest:
		so = m.operand(a.L) < m.operand(a.R)
	default:
		return true
	}
	return so == a.Sense
}

// wrong tells whether a box can't be used, and what is seen then.
func (m *machine) wrong(b *box, at, freed int) bool {
	switch {
	case b == nil:
		m.see(3, at, 1)
	case b.freed:
		m.see(3, at, freed)
	default:
		return false
	}
	return true
}

// do does an action, and tells whether it is wrong.
func (m *machine) do(a api.Action, in int) bool {
	x, y := m.vars[a.X], m.vars[a.Y]
	switch a.Kind {
	case api.DoNull:
		m.vars[a.X] = nil
	case api.DoCopy:
		m.vars[a.X] = y
	case api.DoLoad:
		if m.wrong(y, a.At, 2) {
			return true
		}
		m.vars[a.X] = y.to[a.F]
	case api.DoCut, api.DoLink:
		if m.wrong(x, a.At, 2) {
			return true
		}
		x.to[a.F] = map[int]*box{api.DoLink: y}[a.Kind]
	case api.DoNew:
		m.fresh(a, in)
	case api.DoFree:
		if m.wrong(x, a.At, 3) {
			return true
		}
		x.freed, x.to = true, nil
		m.see(2, a.At, m.number(x))
	case api.DoTake:
		m.ints[a.X] = in
	case api.DoPut:
		l, r := uint64(m.operand(a.L)), uint64(m.operand(a.R))
		m.ints[a.X] = int([]uint64{l, l + r, l - r}[a.Op])
	}
	return false
}

func (m *machine) fresh(a api.Action, in int) {
	m.vars[a.X] = nil
	if in == 0 {
		m.see(1, a.At, 0)
		return
	}
	b := &box{kind: a.T, to: map[int]*box{}}
	m.boxes = append(m.boxes, b)
	m.vars[a.X] = b
	m.see(1, a.At, 1)
}

// leaks tells whether there is a box that is not freed, and to which nothing leads.
func (m *machine) leaks() bool {
	met := map[*box]bool{}
	var meet func(b *box)
	meet = func(b *box) {
		if b == nil || met[b] {
			return
		}
		met[b] = true
		for _, next := range b.to {
			meet(next)
		}
	}
	for _, b := range m.vars {
		meet(b)
	}
	return slices.ContainsFunc(m.boxes, func(b *box) bool { return !b.freed && !met[b] })
}

// modelRun: how a run ends, and the states from the first one to the last one.
func modelRun(g api.Graph, script []int, fuel int) (run.Result, []api.State) {
	if !graph.Right(g) {
		return run.Result{}, nil
	}
	m := &machine{g: g, at: g.Start, vars: map[int]*box{}, ints: map[int]int{}}
	states := []api.State{m.state()}
	used := 0
	end := func(stand int) (run.Result, []api.State) {
		return run.Result{Stand: stand, State: m.state(), Events: m.events, Used: used, Steps: len(states) - 1}, states
	}
	for {
		if m.at == g.End && m.leaks() {
			m.see(3, g.EndAt, 4)
			return end(2)
		}
		if m.at == g.End {
			m.see(4, g.EndAt, 0)
			return end(3)
		}
		if len(states)-1 >= fuel || len(states)-1 >= 1048576 {
			return end(0)
		}
		outs, in := graph.Outs(g, m.at), 0
		if slices.Contains([]int{6, 9, 10}, outs[0].Act.Kind) {
			if used >= len(script) {
				return end(1)
			}
			in = script[used]
			used++
		}
		e := outs[slices.IndexFunc(outs, func(e api.Edge) bool { return m.holds(e.Act, in) })]
		wrong := m.do(e.Act, in)
		if !wrong {
			m.at = e.To
		}
		states = append(states, m.state())
		if wrong {
			return end(2)
		}
	}
}

// alike tells whether two states are: nil and empty lists are the same.
func alike(a, b api.State) bool {
	return a.Point == b.Point && slices.Equal(a.Vars, b.Vars) && slices.Equal(a.Ints, b.Ints) && slices.EqualFunc(a.Cells, b.Cells, func(a, b api.Cell) bool {
		return a.Type == b.Type && a.Freed == b.Freed && slices.Equal(a.To, b.To)
	})
}

func sameResult(a, b run.Result) bool {
	return a.Stand == b.Stand && alike(a.State, b.State) && slices.Equal(a.Events, b.Events) && a.Used == b.Used && a.Steps == b.Steps
}

// hold holds Run and Watch against the model, and tells what Run tells.
func hold(t *testing.T, g api.Graph, script []int, fuel int) run.Result {
	t.Helper()
	got := run.Run(g, script, fuel)
	want, states := modelRun(g, script, fuel)
	if !sameResult(got, want) {
		t.Errorf("Run of\n%swith %v and fuel %d: %+v, want %+v", graph.Text(g), script, fuel, got, want)
	}
	if seen := slices.Collect(run.Watch(g, script, fuel)); !slices.EqualFunc(seen, states, alike) {
		t.Errorf("Watch of\n%swith %v and fuel %d: %v, want %v", graph.Text(g), script, fuel, seen, states)
	}
	return got
}

// want holds that a run is so, of the model too.
func want(t *testing.T, g api.Graph, script []int, fuel int, so run.Result) {
	t.Helper()
	if !graph.Right(g) {
		t.Fatalf("the graph is not right:\n%s", graph.Text(g))
	}
	if got := hold(t, g, script, fuel); !sameResult(got, so) {
		t.Errorf("Run of\n%swith %v and fuel %d: %+v, want %+v", graph.Text(g), script, fuel, got, so)
	}
}

// edges are those of lines: from, to, and an action's text.
func edges(t *testing.T, lines ...string) []api.Edge {
	t.Helper()
	var all []api.Edge
	for _, line := range lines {
		words := strings.SplitN(line, " ", 3)
		from, wrong := strconv.Atoi(words[0])
		to, other := strconv.Atoi(words[1])
		if wrong != nil || other != nil {
			t.Fatalf("the line %q: %v, %v", line, wrong, other)
		}
		all = append(all, api.Edge{From: from, To: to, Act: must(t, words[2])})
	}
	return all
}

// must is the action of a text.
func must(t *testing.T, text string) api.Action {
	t.Helper()
	a, err := action.Parse(text)
	if err != api.OK {
		t.Fatalf("%q: %v", text, err)
	}
	return a
}

// row is a graph without branches that does these actions one by one, with two variables of each kind and a struct of two fields.
func row(t *testing.T, acts ...string) api.Graph {
	t.Helper()
	g := api.Graph{Points: len(acts) + 1, End: len(acts), EndAt: 99, Vars: 2, Ints: 2, Structs: 1, Fields: make([]api.Field, 2)}
	for i, a := range acts {
		g.Edges = append(g.Edges, edges(t, strconv.Itoa(i)+" "+strconv.Itoa(i+1)+" "+a)...)
	}
	return g
}

// lowered is a program's graph.
func lowered(t *testing.T, text string) api.Graph {
	t.Helper()
	p, at, err := parse.Program(text)
	if err != api.OK {
		t.Fatalf("%s: %v at %d", text, err, at)
	}
	g, at, err := lower.Graph(p)
	if err != api.OK {
		t.Fatalf("%s: %v at %d", text, err, at)
	}
	return g
}
