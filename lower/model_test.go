package lower_test

import (
	"reflect"
	"testing"

	"umbral/api"
	"umbral/graph"
	"umbral/lower"
)

// ofInt is the type of numbers; all others are structs' numbers.
const ofInt = -1

// meaning is what a name is: its type, and its number among the variables of its kind.
type meaning struct {
	name   string
	kind   int
	number int
}

// stand is where statements stand: of several that have a name the first one counts. Variables from pointers and numbers on are free.
type stand struct {
	names    []meaning
	pointers int
	numbers  int
}

// part is a piece of a program without names and calls: a step, or a fork, which may be a loop.
type part struct {
	act   api.Action // of a fork: that of its first branch
	fork  bool
	loop  bool
	at    int
	ahead []part // the steps by which a fork's condition is known
	drops []part // those by which its temps end
	yes   []part
	no    []part
}

// world is the program of a model, and how much of it there was.
type world struct {
	p      api.Program
	points int
	vars   int
	ints   int
}

func (w *world) isOver() bool { return w.points > 2000 || w.vars > 24 || w.ints > 24 }

func (w *world) structNumber(name string) int {
	for i, s := range w.p.Structs {
		if s.Name == name {
			return i
		}
	}
	return ofInt
}

// field tells the number of a struct's field, and to which struct it leads.
func (w *world) field(owner int, name string) (int, int) {
	number := 0
	for i, s := range w.p.Structs {
		for _, f := range s.Fields {
			if i == owner && f.Name == name {
				return number, w.structNumber(f.Type)
			}
			number++
		}
	}
	return -1, ofInt
}

// with tells a stand with these names ahead of others, behind the variables that there are.
func (w *world) with(at stand, others []meaning, decls ...api.Decl) stand {
	at.names = nil
	for _, d := range decls {
		kind := w.structNumber(d.Type)
		free := &at.pointers
		if kind == ofInt {
			free = &at.numbers
		}
		at.names = append(at.names, meaning{d.Name, kind, *free})
		*free++
	}
	at.names = append(at.names, others...)
	w.vars, w.ints = max(w.vars, at.pointers), max(w.ints, at.numbers)
	return at
}

func (at stand) find(name string) meaning {
	for _, m := range at.names {
		if m.name == name {
			return m
		}
	}
	return meaning{name, ofInt, -99}
}

// globals are the names that all procedures know: those of numbers and pointers begin at 0.
func (w *world) globals() stand { return w.with(stand{}, nil, w.p.Globals...) }

func (w *world) proc(name string) api.Proc {
	for _, q := range w.p.Procs {
		if q.Name == name {
			return q
		}
	}
	return api.Proc{}
}

// steps makes parts of actions, and counts their points.
func (w *world) steps(acts ...api.Action) []part {
	var l []part
	for _, a := range acts {
		l = append(l, part{act: a})
	}
	w.points += len(l)
	return l
}

// loads tells the actions by which x is what hops lead to from m.
func (w *world) loads(x int, m meaning, hops []api.Hop) ([]api.Action, meaning) {
	var acts []api.Action
	for _, h := range hops {
		f, kind := w.field(m.kind, h.Name)
		acts = append(acts, api.Action{Kind: api.DoLoad, X: x, Y: m.number, F: f, At: h.At})
		m = meaning{"", kind, x}
	}
	return acts, m
}

// know tells the actions by which a variable is what a path is, that variable, and how many temps are open then, if there are open ones ahead.
func (w *world) know(at stand, open int, q api.Path) ([]api.Action, meaning, int) {
	if len(q.Hops) == 0 {
		return nil, at.find(q.Name), open
	}
	w.vars = max(w.vars, at.pointers+open+1)
	acts, m := w.loads(at.pointers+open, at.find(q.Name), q.Hops)
	return acts, m, open + 1
}

// drop tells the actions by which so many temps end.
func (at stand) drop(open, place int) []api.Action {
	var acts []api.Action
	for i := range open {
		acts = append(acts, api.Action{Kind: api.DoNull, X: at.pointers + i, At: place})
	}
	return acts
}

func (at stand) operand(x api.Term) api.Operand {
	if x.Name == "" {
		return api.Operand{Var: -1, N: x.N}
	}
	return api.Operand{Var: at.find(x.Name).number}
}

func (at stand) number(v api.Value) api.Operand {
	if v.Kind == api.Way {
		return api.Operand{Var: at.find(v.Path.Name).number}
	}
	return at.operand(v.Left)
}

// assign tells the actions by which x is v, as names are known at at, with temps behind free.
func (w *world) assign(at, free stand, x meaning, v api.Value, place int) []api.Action {
	free.names = at.names
	switch {
	case v.Kind == api.Input:
		return []api.Action{{Kind: api.DoTake, X: x.number, At: v.At}}
	case v.Kind == api.Plus || v.Kind == api.Minus:
		return []api.Action{{Kind: api.DoPut, X: x.number, Op: map[int]int{api.Plus: 1, api.Minus: 2}[v.Kind], L: at.operand(v.Left), R: at.operand(v.Right), At: place}}
	case x.kind == ofInt:
		return []api.Action{{Kind: api.DoPut, X: x.number, L: at.number(v), At: place}}
	case v.Kind == api.Null:
		return []api.Action{{Kind: api.DoNull, X: x.number, At: place}}
	case v.Kind == api.Fresh:
		return []api.Action{{Kind: api.DoNew, X: x.number, T: w.structNumber(v.Type), At: v.At}}
	case len(v.Path.Hops) == 0:
		return []api.Action{{Kind: api.DoCopy, X: x.number, Y: at.find(v.Path.Name).number, At: place}}
	}
	last := len(v.Path.Hops) - 1
	acts, m, open := w.know(free, 0, api.Path{Name: v.Path.Name, Hops: v.Path.Hops[:last]})
	more, _ := w.loads(x.number, m, v.Path.Hops[last:])
	return append(append(acts, more...), free.drop(open, place)...)
}

// link tells the actions of Set with hops.
func (w *world) link(at stand, s api.Stmt) []api.Action {
	last := len(s.Place.Hops) - 1
	acts, base, open := w.know(at, 0, api.Path{Name: s.Place.Name, Hops: s.Place.Hops[:last]})
	f, _ := w.field(base.kind, s.Place.Hops[last].Name)
	place := s.Place.Hops[last].At
	cut := api.Action{Kind: api.DoCut, X: base.number, F: f, At: place}
	switch s.Value.Kind {
	case api.Null:
		acts = append(acts, cut)
	case api.Way:
		more, m, now := w.know(at, open, s.Value.Path)
		open = now
		acts = append(append(acts, more...), cut, api.Action{Kind: api.DoLink, X: base.number, F: f, Y: m.number, At: place})
	case api.Fresh:
		v := at.pointers + open
		open++
		w.vars = max(w.vars, at.pointers+open)
		acts = append(acts, api.Action{Kind: api.DoNew, X: v, T: w.structNumber(s.Value.Type), At: s.Value.At}, cut, api.Action{Kind: api.DoLink, X: base.number, F: f, Y: v, At: place})
	}
	return append(acts, at.drop(open, s.At)...)
}

// fork tells a branch, without what it leads to.
func (w *world) fork(at stand, s api.Stmt) part {
	c := s.Cond
	f := part{fork: true, loop: s.Kind == api.While, at: s.At}
	f.act = api.Action{Kind: api.DoPick, At: c.At, Sense: c.Kind == api.Choice || c.Kind == api.Same || c.Kind == api.Less}
	open := 0
	var ahead []api.Action
	isPointer := func(v api.Value) bool {
		return v.Kind == api.Null || v.Kind == api.Way && (len(v.Path.Hops) > 0 || at.find(v.Path.Name).kind != ofInt)
	}
	side := func(v api.Value) int {
		if v.Kind == api.Null {
			return -1
		}
		acts, m, now := w.know(at, open, v.Path)
		ahead, open = append(ahead, acts...), now
		return m.number
	}
	switch {
	case c.Kind == api.Choice:
	case isPointer(c.Left) && isPointer(c.Right):
		f.act.Kind, f.act.X = api.DoSame, side(c.Left)
		f.act.Y = side(c.Right)
	default:
		f.act.Kind, f.act.L, f.act.R = api.DoTest, at.number(c.Left), at.number(c.Right)
		f.act.Op = map[int]int{api.Less: 1, api.NotLess: 1}[c.Kind]
	}
	f.ahead, f.drops = w.steps(ahead...), w.steps(at.drop(open, s.At)...)
	w.points += 3 + open // two points of the branch, the temps of its other side, and the end of an If, or the Head
	return f
}

// call tells the parts of a Call.
func (w *world) call(at stand, s api.Stmt) []part {
	q := w.proc(s.Name)
	l := w.steps(api.Action{Kind: api.DoSkip, At: s.At})
	inner := w.with(at, w.globals().names, append(append([]api.Decl{}, q.Params...), q.Locals...)...)
	for i, v := range s.Args {
		l = append(l, w.steps(w.assign(at, inner, inner.names[i], v, s.At)...)...)
	}
	for i := range q.Locals {
		if m := inner.names[len(q.Params)+i]; m.kind == ofInt {
			l = append(l, w.steps(api.Action{Kind: api.DoPut, X: m.number, L: api.Operand{Var: -1}, At: s.At})...)
		}
	}
	l = append(l, w.list(inner, q.Body)...)
	return append(l, w.steps(at.drop(inner.pointers-at.pointers, s.At)...)...)
}

func (w *world) list(at stand, l []api.Stmt) []part {
	var all []part
	for _, s := range l {
		if w.isOver() {
			break
		}
		all = append(all, w.stmt(at, s)...)
	}
	return all
}

func (w *world) stmt(at stand, s api.Stmt) []part {
	switch s.Kind {
	case api.Set:
		if len(s.Place.Hops) > 0 {
			return w.steps(w.link(at, s)...)
		}
		return w.steps(w.assign(at, at, at.find(s.Place.Name), s.Value, s.At)...)
	case api.Free:
		acts, m, open := w.know(at, 0, s.Place)
		acts = append(acts, api.Action{Kind: api.DoFree, X: m.number, At: s.At})
		return w.steps(append(acts, at.drop(open, s.At)...)...)
	case api.Call:
		return w.call(at, s)
	case api.If, api.While:
		f := w.fork(at, s)
		f.yes = w.list(at, s.Then)
		f.no = w.list(at, s.Else)
		return []part{f}
	case api.Block:
		return w.list(at, s.Then)
	}
	return w.steps(api.Action{Kind: api.DoSkip, At: s.At})
}

// wire lays parts as points and edges behind a point, and tells where they end.
func wire(g *api.Graph, from int, l []part) int {
	fresh := func() int {
		g.Points++
		return g.Points - 1
	}
	edge := func(from, to int, a api.Action) { g.Edges = append(g.Edges, api.Edge{From: from, To: to, Act: a}) }
	for _, p := range l {
		skip := api.Action{Kind: api.DoSkip, At: p.at}
		if !p.fork {
			to := fresh()
			edge(from, to, p.act)
			from = to
			continue
		}
		head := from
		if p.loop {
			head = fresh()
			edge(from, head, skip)
			g.Heads = append(g.Heads, head)
		}
		from = wire(g, head, p.ahead)
		yes, no := fresh(), fresh()
		not := p.act
		not.Sense = !not.Sense
		edge(from, yes, p.act)
		edge(from, no, not)
		yes = wire(g, yes, p.drops)
		no = wire(g, no, p.drops)
		yes = wire(g, yes, p.yes)
		if p.loop {
			edge(yes, head, skip)
			from = no
			continue
		}
		no = wire(g, no, p.no)
		from = fresh()
		edge(yes, from, skip)
		edge(no, from, skip)
	}
	return from
}

// modelled tells what Graph must tell of a program that layers 9 and 10 find right.
func modelled(p api.Program) (api.Graph, int, api.Errno) {
	w := &world{p: p, points: 1}
	main := w.proc("main")
	globals := w.globals()
	at := w.with(globals, globals.names, main.Locals...)
	if w.isOver() {
		return api.Graph{}, 0, api.ErrMany
	}
	var all []part
	for _, s := range main.Body {
		all = append(all, w.stmt(at, s)...)
		if w.isOver() {
			return api.Graph{}, s.At, api.ErrMany
		}
	}
	g := api.Graph{Points: 1, EndAt: main.End, Vars: w.vars, Ints: w.ints, Structs: len(p.Structs)}
	for i, s := range p.Structs {
		for _, f := range s.Fields {
			g.Fields = append(g.Fields, api.Field{Owner: i, Target: w.structNumber(f.Type)})
		}
	}
	g.End = wire(&g, 0, all)
	return g, 0, api.OK
}

// likeness tells a graph without the difference of nil and empty lists.
func likeness(g api.Graph) api.Graph {
	g.Edges = append([]api.Edge{}, g.Edges...)
	g.Heads = append([]int{}, g.Heads...)
	g.Fields = append([]api.Field{}, g.Fields...)
	return g
}

// holdModel holds a program's graph against the model, and what follows; it tells the graph, and the error.
func holdModel(t *testing.T, what string, p api.Program) (api.Graph, api.Errno) {
	t.Helper()
	want, wantAt, wantErr := modelled(p)
	g, at, err := lower.Graph(p)
	if at != wantAt || err != wantErr {
		t.Errorf("%s: %v at %d, want %v at %d", what, err, at, wantErr, wantAt)
	}
	if !reflect.DeepEqual(likeness(g), likeness(want)) {
		t.Errorf("%s: %q\n%swant %q\n%s", what, facts(g), graph.Text(g), facts(want), graph.Text(want))
	}
	if err == api.OK {
		holdRight(t, what, p, g)
	}
	return g, err
}
