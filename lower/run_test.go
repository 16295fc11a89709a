package lower_test

import (
	"slices"
	"testing"

	"umbral/api"
	"umbral/lower"
)

// moment is what both machines have: variables, cells from 1 on, inputs, and what one sees.
type moment struct {
	vars   []int
	ints   []int
	cells  []api.Cell
	fields int
	script []int
	fuel   int
	events []api.Event
}

// halt is how a machine ends: it panics with it.
type halt int

func (m *moment) see(kind, at, n int) {
	m.events = append(m.events, api.Event{Kind: kind, At: at, N: n})
}

func (m *moment) fail(at, kind int) {
	m.see(api.EvError, at, kind)
	panic(halt(api.Failed))
}

func (m *moment) burn() {
	if m.fuel == 0 {
		panic(halt(api.Going))
	}
	m.fuel--
}

func (m *moment) input() int {
	if len(m.script) == 0 {
		panic(halt(api.Dry))
	}
	n := m.script[0]
	m.script = m.script[1:]
	return n
}

// cell is one that may be used.
func (m *moment) cell(number, at int) *api.Cell {
	if number == 0 {
		m.fail(at, api.ByNull)
	}
	c := &m.cells[number-1]
	if c.Freed {
		m.fail(at, api.ByUse)
	}
	return c
}

func (m *moment) fresh(kind, at int) int {
	if m.input() == 0 {
		m.see(api.EvNew, at, 0)
		return 0
	}
	m.cells = append(m.cells, api.Cell{Type: kind, To: make([]int, m.fields)})
	m.see(api.EvNew, at, 1)
	return len(m.cells)
}

func (m *moment) free(number, at int) {
	if number > 0 && m.cells[number-1].Freed {
		m.fail(at, api.ByTwice)
	}
	c := m.cell(number, at)
	c.Freed = true
	clear(c.To)
	m.see(api.EvFree, at, number)
}

// end looks for cells left behind by these variables.
func (m *moment) end(vars []int, at int) {
	met := make([]bool, len(m.cells)+1)
	for open := slices.Clone(vars); len(open) > 0; open = open[1:] {
		if number := open[0]; number > 0 && !met[number] {
			met[number] = true
			open = append(open, m.cells[number-1].To...)
		}
	}
	for i, c := range m.cells {
		if !c.Freed && !met[i+1] {
			m.fail(at, api.ByLeak)
		}
	}
	m.see(api.EvHalt, at, 0)
	panic(halt(api.Halted))
}

// ended tells how a machine ends.
func ended(run func()) (stand int) {
	defer func() { stand = int(recover().(halt)) }()
	run()
	return
}

// runGraph runs a graph as layers 15 and 16 tell.
func runGraph(g api.Graph, m *moment) {
	m.vars, m.ints, m.fields = make([]int, g.Vars), make([]int, g.Ints), len(g.Fields)
	outs := make([][]api.Edge, g.Points)
	for _, e := range g.Edges {
		outs[e.From] = append(outs[e.From], e)
	}
	for at := g.Start; ; {
		if at == g.End {
			m.end(m.vars, g.EndAt)
		}
		m.burn()
		e := outs[at][0]
		if len(outs[at]) == 2 && !m.holds(e.Act) {
			e = outs[at][1]
		}
		m.do(e.Act)
		at = e.To
	}
}

func (m *moment) operand(x api.Operand) int {
	if x.Var < 0 {
		return x.N
	}
	return m.ints[x.Var]
}

func (m *moment) pointer(x int) int {
	if x < 0 {
		return 0
	}
	return m.vars[x]
}

func (m *moment) holds(a api.Action) bool {
	got := false
	switch {
	case a.Kind == api.DoPick:
		got = m.input() != 0
	case a.Kind == api.DoSame:
		got = m.pointer(a.X) == m.pointer(a.Y)
	case a.Op == 0:
		got = m.operand(a.L) == m.operand(a.R)
	default:
		got = m.operand(a.L) < m.operand(a.R)
	}
	return got == a.Sense
}

func (m *moment) do(a api.Action) {
	switch a.Kind {
	case api.DoNull:
		m.vars[a.X] = 0
	case api.DoCopy:
		m.vars[a.X] = m.vars[a.Y]
	case api.DoLoad:
		m.vars[a.X] = m.cell(m.vars[a.Y], a.At).To[a.F]
	case api.DoCut:
		m.cell(m.vars[a.X], a.At).To[a.F] = 0
	case api.DoLink:
		m.cell(m.vars[a.X], a.At).To[a.F] = m.vars[a.Y]
	case api.DoNew:
		m.vars[a.X] = m.fresh(a.T, a.At)
	case api.DoFree:
		m.free(m.vars[a.X], a.At)
	case api.DoTake:
		m.ints[a.X] = m.input()
	case api.DoPut:
		m.ints[a.X] = [3]int{m.operand(a.L), m.operand(a.L) + m.operand(a.R), m.operand(a.L) - m.operand(a.R)}[a.Op]
	}
}

// slot is a variable of a program that is run as it stands.
type slot struct {
	kind  int
	value int
}

// direct runs a program as layer 17 tells: each call has slots of its own.
type direct struct {
	*moment
	w     *world
	known []map[string]*slot // those of the procedure, then the globals
}

func (d *direct) slots(decls ...api.Decl) map[string]*slot {
	all := map[string]*slot{}
	for _, x := range decls {
		all[x.Name] = &slot{kind: d.w.structNumber(x.Type)}
	}
	return all
}

func (d *direct) slot(name string) *slot {
	for _, all := range d.known {
		if s := all[name]; s != nil {
			return s
		}
	}
	return nil
}

func runDirect(p api.Program, m *moment) {
	d := &direct{moment: m, w: &world{p: p}}
	for _, s := range p.Structs {
		m.fields += len(s.Fields)
	}
	globals := d.slots(p.Globals...)
	main := d.w.proc("main")
	own := d.slots(main.Locals...)
	d.known = []map[string]*slot{own, globals}
	d.list(main.Body)
	var vars []int
	for _, all := range d.known {
		for _, s := range all {
			if s.kind != ofInt {
				vars = append(vars, s.value)
			}
		}
	}
	m.end(vars, main.End)
}

// path tells what a path is, and its type.
func (d *direct) path(w api.Path) (int, int) {
	s := d.slot(w.Name)
	value, kind := s.value, s.kind
	for _, h := range w.Hops {
		f, to := d.w.field(kind, h.Name)
		value, kind = d.cell(value, h.At).To[f], to
	}
	return value, kind
}

func (d *direct) term(x api.Term) int {
	if x.Name == "" {
		return x.N
	}
	return d.slot(x.Name).value
}

func (d *direct) value(v api.Value) int {
	switch v.Kind {
	case api.Way:
		value, _ := d.path(v.Path)
		return value
	case api.Fresh:
		return d.fresh(d.w.structNumber(v.Type), v.At)
	case api.Input:
		return d.input()
	case api.Number:
		return d.term(v.Left)
	case api.Plus:
		return d.term(v.Left) + d.term(v.Right)
	case api.Minus:
		return d.term(v.Left) - d.term(v.Right)
	}
	return 0
}

func (d *direct) cond(c api.Cond) bool {
	if c.Kind == api.Choice {
		return d.input() != 0
	}
	left, right := d.value(c.Left), d.value(c.Right)
	return []bool{false, left == right, left != right, left < right, left >= right}[c.Kind]
}

func (d *direct) list(l []api.Stmt) {
	for _, s := range l {
		d.stmt(s)
	}
}

func (d *direct) stmt(s api.Stmt) {
	d.burn()
	switch s.Kind {
	case api.Set:
		d.set(s)
	case api.Free:
		value, _ := d.path(s.Place)
		d.free(value, s.At)
	case api.Call:
		d.call(s)
	case api.If:
		if d.cond(s.Cond) {
			d.list(s.Then)
		} else {
			d.list(s.Else)
		}
	case api.While:
		for d.cond(s.Cond) {
			d.list(s.Then)
			d.burn()
		}
	case api.Block:
		d.list(s.Then)
	}
}

func (d *direct) set(s api.Stmt) {
	last := len(s.Place.Hops) - 1
	if last < 0 {
		value := d.value(s.Value)
		d.slot(s.Place.Name).value = value
		return
	}
	base, kind := d.path(api.Path{Name: s.Place.Name, Hops: s.Place.Hops[:last]})
	value := d.value(s.Value)
	f, _ := d.w.field(kind, s.Place.Hops[last].Name)
	d.cell(base, s.Place.Hops[last].At).To[f] = value
}

func (d *direct) call(s api.Stmt) {
	q := d.w.proc(s.Name)
	own := d.slots(append(append([]api.Decl{}, q.Params...), q.Locals...)...)
	for i, v := range s.Args {
		own[q.Params[i].Name].value = d.value(v)
	}
	caller := d.known
	d.known = []map[string]*slot{own, caller[1]}
	d.list(q.Body)
	d.known = caller
}

// holdRuns holds that one sees the same of a program that is run as it stands, and as its graph; it tells what, and how the run ends.
func holdRuns(t *testing.T, text string, p api.Program, g api.Graph, script []int) ([]api.Event, int) {
	t.Helper()
	one := &moment{script: script, fuel: 2000}
	other := &moment{script: script, fuel: 20000}
	stand := ended(func() { runDirect(p, one) })
	got := ended(func() { runGraph(g, other) })
	seen := other.events
	if stand == api.Going {
		// The graph may have come further, with fuel of its own.
		got, seen = stand, seen[:min(len(seen), len(one.events))]
	}
	if got != stand || !slices.Equal(seen, one.events) {
		t.Errorf("%sof %v: %d with %v, as a graph %d with %v", text, script, stand, one.events, got, other.events)
	}
	return one.events, stand
}

// What layers 16 and 17 will tell: one sees the same of programs by lot as of their graphs.
func TestRunsByLot(t *testing.T) {
	stands, errors := map[int]int{}, map[int]int{}
	for i := range 3000 {
		p, text := made(t, i)
		g, _, err := lower.Graph(p)
		if err != api.OK {
			continue
		}
		m := &maker{lot: lot(i)}
		for range 10 {
			var script []int
			for range m.below(60) {
				script = append(script, one(&m.lot, 0, 1, 1, 1, 2, -3))
			}
			events, stand := holdRuns(t, text, p, g, script)
			stands[stand]++
			if stand == api.Failed {
				errors[events[len(events)-1].N]++
			}
		}
		if t.Failed() {
			return
		}
	}
	for _, stand := range []int{api.Going, api.Dry, api.Failed, api.Halted} {
		if stands[stand] < 300 {
			t.Errorf("by lot runs ended so: %v", stands)
		}
	}
	for _, kind := range []int{api.ByNull, api.ByUse, api.ByTwice, api.ByLeak} {
		if errors[kind] < 20 {
			t.Errorf("by lot runs raised: %v", errors)
		}
	}
}
