package lower

import (
	"umbral/api"
	"umbral/scope"
)

func (d *draft) list(l []api.Stmt) {
	for i := range l {
		if d.isTooGreat() {
			return
		}
		d.stmt(&l[i])
	}
}

// stmt puts a statement in. All of its temps end with it, whatever took them.
func (d *draft) stmt(s *api.Stmt) {
	defer d.drop(s.At)
	switch s.Kind {
	case api.Skip:
		d.skip(s.At)
	case api.Set:
		if len(s.Place.Hops) == 0 {
			d.assign(d.names.find(s.Place.Name), &s.Value, s.At)
		} else {
			d.link(s)
		}
	case api.Free:
		d.do(api.Action{Kind: api.DoFree, X: d.held(s.Place).number, At: s.At})
	case api.Call:
		d.call(s)
	case api.If:
		d.either(s)
	case api.While:
		d.loop(s)
	case api.Block:
		d.list(s.Then)
	}
}

// link lets a field lead to what the statement's Value is: it leads nowhere between, once the Value is known.
func (d *draft) link(s *api.Stmt) {
	ahead, last := cut(s.Place)
	base := d.held(ahead)
	to := -1
	switch s.Value.Kind {
	case api.Way:
		to = d.held(s.Value.Path).number
	case api.Fresh:
		to = d.pointers.take()
		d.fresh(to, &s.Value)
	}
	field := d.field(base, last)
	d.do(api.Action{Kind: api.DoCut, X: base.number, F: field, At: last.At})
	if to >= 0 {
		d.do(api.Action{Kind: api.DoLink, X: base.number, F: field, Y: to, At: last.At})
	}
}

// call puts in what is called, with a frame of its own.
func (d *draft) call(s *api.Stmt) {
	d.skip(s.At)
	number, _ := d.table.Proc(s.Name)
	q := &d.procs[number]
	frame := within(d.globals)
	defer d.leave(d.names, d.top, d.ints.now, s.At)
	d.declare(frame, q.Params)
	d.declare(frame, q.Locals)
	for i := range s.Args {
		d.argument(frame.find(q.Params[i].Name), &s.Args[i], s.At)
	}
	for _, x := range q.Locals {
		if v := frame.find(x.Name); v.kind == scope.Int {
			d.do(api.Action{Kind: api.DoPut, X: v.number, L: api.Operand{Var: -1}, At: s.At})
		}
	}
	d.names = frame
	d.list(q.Body)
}

// argument hands a value on: it means what it means to the caller.
func (d *draft) argument(x variable, v *api.Value, at int) {
	defer d.drop(at)
	d.assign(x, v, at)
}

// leave ends the frame that stands behind top and ints.
func (d *draft) leave(caller *names[variable], top, ints, at int) {
	d.nulls(top, d.top, at)
	d.names = caller
	d.top = top
	d.pointers.now = top
	d.ints.now = ints
}

func (d *draft) either(s *api.Stmt) {
	yes, no := d.branch(s)
	d.at = yes
	d.list(s.Then)
	yes = d.at
	d.at = no
	d.list(s.Else)
	no = d.at
	d.at = yes
	d.skip(s.At)
	d.edge(no, d.at, api.Action{Kind: api.DoSkip, At: s.At})
}

func (d *draft) loop(s *api.Stmt) {
	d.skip(s.At)
	head := d.at
	d.graph.Heads = append(d.graph.Heads, head)
	yes, no := d.branch(s)
	d.at = yes
	d.list(s.Then)
	d.edge(d.at, head, api.Action{Kind: api.DoSkip, At: s.At})
	d.at = no
}

// branch tells from which points it goes on, where the condition holds and where it does not: the temps that it took have ended at both.
func (d *draft) branch(s *api.Stmt) (int, int) {
	a := d.question(&s.Cond)
	from := d.at
	yes, no := d.point(), d.point()
	d.edge(from, yes, a)
	a.Sense = !a.Sense
	d.edge(from, no, a)
	behind := d.pointers.now
	d.at = yes
	d.nulls(d.top, behind, s.At)
	yes = d.at
	d.at = no
	d.drop(s.At)
	return yes, d.at
}

// question tells the branch of a condition that holds.
func (d *draft) question(c *api.Cond) api.Action {
	a := api.Action{At: c.At, Sense: c.Kind != api.Other && c.Kind != api.NotLess}
	switch {
	case c.Kind == api.Choice:
		a.Kind = api.DoPick
	case d.isNumber(&c.Left):
		a.Kind = api.DoTest
		a.L = d.number(&c.Left)
		a.R = d.number(&c.Right)
		if c.Kind == api.Less || c.Kind == api.NotLess {
			a.Op = 1
		}
	default:
		a.Kind = api.DoSame
		a.X = d.pointer(&c.Left)
		a.Y = d.pointer(&c.Right)
	}
	return a
}
