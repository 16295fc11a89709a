package state_test

import (
	"math/big"
	"slices"
	"testing"

	"umbral/api"
	"umbral/graph"
	"umbral/state"
)

// The model says again, as the chapter has it, what the calls of the package answer: cells lead by maps, and numbers are of any size.

// modelRight: is s a state of g.
func modelRight(g api.Graph, s api.State) bool {
	right := s.Point >= 0 && s.Point < g.Points
	right = right && len(s.Vars) == held(g.Vars) && len(s.Ints) == held(g.Ints)
	for _, v := range s.Vars {
		right = right && v >= 0 && v <= len(s.Cells)
	}
	for _, c := range s.Cells {
		right = right && c.Type >= 0 && c.Type < g.Structs && len(c.To) == len(g.Fields)
		for _, to := range c.To {
			right = right && to >= 0 && to <= len(s.Cells) && (to == 0 || !c.Freed)
		}
	}
	return right
}

// held is a count of variables from 0 to 24.
func held(count int) int {
	switch {
	case count < 0:
		return 0
	case count > 24:
		return 24
	}
	return count
}

// modelHolds: does a run go on by a.
func modelHolds(s api.State, a api.Action, in int) bool {
	var asked bool
	switch a.Kind {
	case 8:
		asked = valueOf(s.Vars, a.X) == valueOf(s.Vars, a.Y)
	case 9:
		asked = in != 0
	case 12:
		l, r := operandOf(s.Ints, a.L), operandOf(s.Ints, a.R)
		asked = l < r
		if a.Op == 0 {
			asked = l == r
		}
	default:
		return true
	}
	if a.Sense {
		return asked
	}
	return !asked
}

// valueOf is a variable's value, 0 of one that is not there.
func valueOf(list []int, x int) int {
	for i, v := range list {
		if i == x {
			return v
		}
	}
	return 0
}

// operandOf is an operand's number.
func operandOf(ints []int, o api.Operand) int {
	if o.Var < 0 {
		return o.N
	}
	return valueOf(ints, o.Var)
}

// wrapped is l and, times sign, r, modulo 2^64, from -2^63 on.
func wrapped(l, r, sign int) int {
	sum := new(big.Int).Mul(big.NewInt(int64(r)), big.NewInt(int64(sign)))
	sum.Add(sum, big.NewInt(int64(l)))
	whole := new(big.Int).Lsh(big.NewInt(1), 64)
	half := new(big.Int).Lsh(big.NewInt(1), 63)
	sum.Add(sum, half).Mod(sum, whole).Sub(sum, half)
	return int(sum.Int64())
}

// world is a state whose cells lead by one map, from a cell and a field; null and what leads nowhere is not in it.
type world struct {
	vars, ints map[int]int
	types      []int
	freed      map[int]bool
	leads      map[[2]int]int
}

func worldOf(s api.State) *world {
	w := &world{vars: map[int]int{}, ints: map[int]int{}, freed: map[int]bool{}, leads: map[[2]int]int{}}
	for i, v := range s.Vars {
		w.vars[i] = v
	}
	for i, n := range s.Ints {
		w.ints[i] = n
	}
	for i, c := range s.Cells {
		w.types = append(w.types, c.Type)
		w.freed[i+1] = c.Freed
		for field, to := range c.To {
			w.leads[[2]int{i + 1, field}] = to
		}
	}
	return w
}

// state is the world as a state of g.
func (w *world) state(g api.Graph, point int) api.State {
	s := api.State{Point: point}
	for i := range held(g.Vars) {
		s.Vars = append(s.Vars, w.vars[i])
	}
	for i := range held(g.Ints) {
		s.Ints = append(s.Ints, w.ints[i])
	}
	for i, t := range w.types {
		c := api.Cell{Type: t, Freed: w.freed[i+1]}
		for field := range g.Fields {
			c.To = append(c.To, w.leads[[2]int{i + 1, field}])
		}
		s.Cells = append(s.Cells, c)
	}
	return s
}

// do is what an action makes of the world, and what one sees: kind and number.
func (w *world) do(fields int, a api.Action, in int) (int, int) {
	wrong := func(cell, freed int) int {
		switch {
		case cell == 0:
			return 1
		case w.freed[cell]:
			return freed
		}
		return 0
	}
	switch a.Kind {
	case 1:
		w.vars[a.X] = 0
	case 2:
		w.vars[a.X] = w.vars[a.Y]
	case 3:
		from := w.vars[a.Y]
		if n := wrong(from, 2); n != 0 {
			return 3, n
		}
		w.vars[a.X] = w.leads[[2]int{from, a.F}]
	case 4, 5:
		from, to := w.vars[a.X], 0
		if a.Kind == 5 {
			to = w.vars[a.Y]
		}
		if n := wrong(from, 2); n != 0 {
			return 3, n
		}
		w.leads[[2]int{from, a.F}] = to
	case 6:
		w.vars[a.X] = 0
		if in == 0 {
			return 1, 0
		}
		w.types = append(w.types, a.T)
		w.vars[a.X] = len(w.types)
		return 1, 1
	case 7:
		cell := w.vars[a.X]
		if n := wrong(cell, 3); n != 0 {
			return 3, n
		}
		w.freed[cell] = true
		for field := range fields {
			delete(w.leads, [2]int{cell, field})
		}
		return 2, cell
	}
	return 0, 0
}

// count is what an action makes of the world's numbers.
func (w *world) count(s api.State, a api.Action, in int) {
	l, r := operandOf(s.Ints, a.L), operandOf(s.Ints, a.R)
	switch {
	case a.Kind == 10:
		w.ints[a.X] = in
	case a.Kind == 11:
		w.ints[a.X] = wrapped(l, r, []int{0, 1, -1}[a.Op])
	}
}

// modelDo: the state then, and the event.
func modelDo(g api.Graph, s api.State, a api.Action, in int) (api.State, api.Event) {
	if !modelRight(g, s) || !graph.Has(g, a) {
		return twin(s), api.Event{}
	}
	w := worldOf(s)
	w.count(s, a, in)
	kind, n := w.do(len(g.Fields), a, in)
	if kind == 0 {
		return w.state(g, s.Point), api.Event{}
	}
	return w.state(g, s.Point), api.Event{Kind: kind, At: a.At, N: n}
}

// modelLeaks: what is left behind, found by taking away what is led to till no more is.
func modelLeaks(g api.Graph, s api.State) []int {
	if !modelRight(g, s) {
		return nil
	}
	w := worldOf(s)
	led := map[int]bool{}
	for _, v := range w.vars {
		led[v] = true
	}
	for before := -1; before != len(led); {
		before = len(led)
		for place, to := range w.leads {
			if led[place[0]] {
				led[to] = true
			}
		}
	}
	var leaks []int
	for i := range w.types {
		if !led[i+1] && !w.freed[i+1] {
			leaks = append(leaks, i+1)
		}
	}
	return leaks
}

// alike tells whether two states are: nil and empty lists are the same.
func alike(a, b api.State) bool {
	if a.Point != b.Point || len(a.Cells) != len(b.Cells) || !slices.Equal(a.Vars, b.Vars) || !slices.Equal(a.Ints, b.Ints) {
		return false
	}
	for i, c := range a.Cells {
		if d := b.Cells[i]; c.Type != d.Type || c.Freed != d.Freed || !slices.Equal(c.To, d.To) {
			return false
		}
	}
	return true
}

// hold holds what all calls answer of a graph, a state, an action and an input against the model, and against what follows.
func hold(t *testing.T, g api.Graph, s api.State, a api.Action, in int) (api.State, api.Event) {
	t.Helper()
	right := modelRight(g, s)
	if got := state.Right(g, s); got != right {
		t.Errorf("Right of %v, %v: %v", g, s, got)
	}
	if got, want := state.Holds(s, a, in), modelHolds(s, a, in); got != want {
		t.Errorf("Holds(%v, %v, %d): %v, want %v", s, a, in, got, want)
	}
	got, event := state.Do(g, s, a, in)
	want, wantEvent := modelDo(g, s, a, in)
	if !alike(got, want) || event != wantEvent {
		t.Errorf("Do(%v, %v, %v, %d): %v, %v, want %v, %v", g, s, a, in, got, event, want, wantEvent)
	}
	if right != state.Right(g, got) {
		t.Errorf("Do(%v, %v, %v, %d): Right of %v is not %v", g, s, a, in, got, right)
	}
	if event.Kind == api.EvError && !state.Same(s, got) {
		t.Errorf("Do(%v, %v, %v, %d): an error changes %v", g, s, a, in, got)
	}
	if same := state.Same(s, got); same != alike(s, got) {
		t.Errorf("Same(%v, %v): %v", s, got, same)
	}
	if leaks, want := state.Leaks(g, s), modelLeaks(g, s); !slices.Equal(leaks, want) {
		t.Errorf("Leaks of %v, %v: %v, want %v", g, s, leaks, want)
	}
	return got, event
}
