package lower

import (
	"umbral/api"
	"umbral/scope"
)

// held tells a variable that holds what w is: the one that it names, or, with hops, a temp.
func (d *draft) held(w api.Path) variable {
	v := d.names.find(w.Name)
	if len(w.Hops) == 0 {
		return v
	}
	temp := d.pointers.take()
	for _, h := range w.Hops {
		v = d.load(temp, v, h)
	}
	return v
}

// load puts into the pointer variable x what a hop from v leads to.
func (d *draft) load(x int, v variable, h api.Hop) variable {
	field := d.field(v, h)
	d.do(api.Action{Kind: api.DoLoad, X: x, Y: v.number, F: field, At: h.At})
	return variable{d.graph.Fields[field].Target, x}
}

func (d *draft) field(v variable, h api.Hop) int {
	number, _ := d.table.Field(v.kind, h.Name)
	return number
}

// cut tells a path without its last hop, and that hop.
func cut(w api.Path) (api.Path, api.Hop) {
	last := len(w.Hops) - 1
	hop := w.Hops[last]
	w.Hops = w.Hops[:last]
	return w, hop
}

// assign puts into x what v is.
func (d *draft) assign(x variable, v *api.Value, at int) {
	if x.kind == scope.Int {
		d.assignNumber(x.number, v, at)
		return
	}
	switch v.Kind {
	case api.Null:
		d.do(api.Action{Kind: api.DoNull, X: x.number, At: at})
	case api.Way:
		d.put(x.number, v.Path, at)
	case api.Fresh:
		d.fresh(x.number, v)
	}
}

func (d *draft) assignNumber(x int, v *api.Value, at int) {
	switch v.Kind {
	case api.Input:
		d.do(api.Action{Kind: api.DoTake, X: x, At: v.At})
	case api.Plus:
		d.do(api.Action{Kind: api.DoPut, X: x, Op: 1, L: d.term(v.Left), R: d.term(v.Right), At: at})
	case api.Minus:
		d.do(api.Action{Kind: api.DoPut, X: x, Op: 2, L: d.term(v.Left), R: d.term(v.Right), At: at})
	default:
		d.do(api.Action{Kind: api.DoPut, X: x, L: d.number(v), At: at})
	}
}

// put puts into the pointer variable x what w is. The last hop needs no temp: x holds what it leads to.
func (d *draft) put(x int, w api.Path, at int) {
	if len(w.Hops) == 0 {
		d.do(api.Action{Kind: api.DoCopy, X: x, Y: d.held(w).number, At: at})
		return
	}
	ahead, last := cut(w)
	d.load(x, d.held(ahead), last)
}

// fresh puts a new cell into the pointer variable x.
func (d *draft) fresh(x int, v *api.Value) {
	kind, _ := d.table.Struct(v.Type)
	d.do(api.Action{Kind: api.DoNew, X: x, T: kind, At: v.At})
}

// number tells a number, or the number variable that a path without hops names.
func (d *draft) number(v *api.Value) api.Operand {
	if v.Kind == api.Way {
		return api.Operand{Var: d.held(v.Path).number}
	}
	return d.term(v.Left)
}

func (d *draft) term(x api.Term) api.Operand {
	if x.Name == "" {
		return api.Operand{Var: -1, N: x.N}
	}
	return api.Operand{Var: d.names.find(x.Name).number}
}

// isNumber tells whether a condition's side is one: with hops, a path is none, as all fields are pointers.
func (d *draft) isNumber(v *api.Value) bool {
	switch v.Kind {
	case api.Number:
		return true
	case api.Way:
		return len(v.Path.Hops) == 0 && d.names.find(v.Path.Name).kind == scope.Int
	}
	return false
}

// pointer tells the variable that holds a condition's side, -1 of null.
func (d *draft) pointer(v *api.Value) int {
	if v.Kind == api.Null {
		return -1
	}
	return d.held(v.Path).number
}
