package lower

import (
	"umbral/api"
	"umbral/scope"
)

// variable is what a name means: its type, and its number among those of its kind, pointers or numbers.
type variable struct {
	kind   int
	number int
}

// room counts the variables of one kind: how many there are, and how many there were at most.
type room struct {
	now  int
	most int
}

// take tells the number of one more.
func (r *room) take() int {
	number := r.now
	r.now++
	r.most = max(r.most, r.now)
	return number
}

// draft is a graph that is being made.
type draft struct {
	table    *scope.Table
	procs    []api.Proc
	graph    api.Graph
	at       int // the current point
	pointers room
	ints     room
	top      int // the first pointer variable behind those that have names: the temps begin there
	globals  *names[variable]
	names    *names[variable] // what names mean in the procedure that is put in
}

// begun tells a draft with all globals and main's locals, at Start.
func begun(p api.Program, table *scope.Table, main *api.Proc) *draft {
	d := &draft{table: table, procs: p.Procs, globals: within[variable](nil)}
	d.graph.Structs = table.Structs()
	d.graph.Fields = table.Fields()
	d.declare(d.globals, p.Globals)
	d.names = within(d.globals)
	d.declare(d.names, main.Locals)
	d.at = d.point()
	return d
}

// ended tells the graph that ends at the current point.
func (d *draft) ended(place int) api.Graph {
	g := d.graph
	g.End = d.at
	g.EndAt = place
	g.Vars = d.pointers.most
	g.Ints = d.ints.most
	return g
}

// isTooGreat is asked again and again: what calls put in could be too much to go over, but is left as soon as this is true.
func (d *draft) isTooGreat() bool {
	return d.graph.Points > api.MaxPoints || d.pointers.most > api.MaxVars || d.ints.most > api.MaxInts
}

// declare takes a variable for each of a list, behind all that there are.
func (d *draft) declare(n *names[variable], list []api.Decl) {
	for _, x := range list {
		kind, _ := d.table.Type(x.Type)
		like := &d.pointers
		if kind == scope.Int {
			like = &d.ints
		}
		n.add(x.Name, variable{kind, like.take()})
	}
	d.top = d.pointers.now
}

// point tells the number of one more.
func (d *draft) point() int {
	number := d.graph.Points
	d.graph.Points++
	return number
}

func (d *draft) edge(from, to int, a api.Action) {
	d.graph.Edges = append(d.graph.Edges, api.Edge{From: from, To: to, Act: a})
}

// do leads by an action from the current point to a new one, which is current then.
func (d *draft) do(a api.Action) {
	from := d.at
	d.at = d.point()
	d.edge(from, d.at, a)
}

func (d *draft) skip(at int) { d.do(api.Action{Kind: api.DoSkip, At: at}) }

// nulls makes the pointer variables from first on null, as far as behind, in order.
func (d *draft) nulls(first, behind, at int) {
	for x := first; x < behind; x++ {
		d.do(api.Action{Kind: api.DoNull, X: x, At: at})
	}
}

// drop ends a statement's temps.
func (d *draft) drop(at int) {
	d.nulls(d.top, d.pointers.now, at)
	d.pointers.now = d.top
}
