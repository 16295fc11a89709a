package run

import (
	"umbral/action"
	"umbral/api"
	"umbral/state"
)

// way is what runs of a graph that is Right go by; none of it changes.
type way struct {
	g      api.Graph
	outs   [][]api.Edge // by the point from which they lead
	script []int
	fuel   int
}

// outs tells the edges of a graph that is Right by the points from which they lead, in order.
func outs(g api.Graph) [][]api.Edge {
	by := make([][]api.Edge, g.Points)
	for _, e := range g.Edges {
		by[e.From] = append(by[e.From], e)
	}
	return by
}

// goesOn tells whether a run takes one more step; if not, r is how it ends.
func (w *way) goesOn(r *Result) bool {
	switch {
	case r.Stand == api.Failed:
		return false
	case r.State.Point == w.g.End:
		w.end(r)
		return false
	case r.Steps >= w.fuel:
		return false
	case w.needs(r) && r.Used == len(w.script):
		r.Stand = api.Dry
		return false
	}
	return true
}

// end is what becomes of a run that has come to End.
func (w *way) end(r *Result) {
	if len(state.Leaks(w.g, r.State)) > 0 {
		r.see(api.Event{Kind: api.EvError, At: w.g.EndAt, N: api.ByLeak})
		return
	}
	r.Stand = api.Halted
	r.see(api.Event{Kind: api.EvHalt, At: w.g.EndAt})
}

// step takes a step of a run that goes on.
func (w *way) step(r *Result) {
	in := w.input(r)
	e := w.next(r, in)
	r.Steps++
	r.see(do(w.g, &r.State, e.Act, in))
	if r.Stand != api.Failed {
		r.State.Point = e.To
	}
}

// see takes in what one sees, a zero event being nothing: behind an error a run has failed.
func (r *Result) see(e api.Event) {
	if e.Kind == 0 {
		return
	}
	r.Events = append(r.Events, e)
	if e.Kind == api.EvError {
		r.Stand = api.Failed
	}
}

// first is the first one of the edges from where a run is.
func (w *way) first(r *Result) api.Edge {
	return w.outs[r.State.Point][0]
}

// needs tells whether an input is needed where a run is.
func (w *way) needs(r *Result) bool {
	return action.Needs(w.first(r).Act)
}

// input is the next one, which is used then; 0, if none is needed.
func (w *way) input(r *Result) int {
	if !w.needs(r) {
		return 0
	}
	in := w.script[r.Used]
	r.Used++
	return in
}

// next is the edge by which a run goes on. Where the first one doesn't hold there is a second one, as the graph is Right.
func (w *way) next(r *Result, in int) api.Edge {
	first := w.first(r)
	if state.Holds(r.State, first.Act, in) {
		return first
	}
	return w.outs[r.State.Point][1]
}
