package graph

import (
	"umbral/action"
	"umbral/api"
)

// Has tells whether a is Right, and all variables, fields and structs that it names are there in g.
func Has(g api.Graph, a api.Action) bool {
	if !action.Right(a) {
		return false
	}
	switch a.Kind {
	case api.DoNull, api.DoFree:
		return below(g.Vars, a.X)
	case api.DoCopy, api.DoSame:
		return below(g.Vars, a.X, a.Y)
	case api.DoLoad, api.DoLink:
		return below(g.Vars, a.X, a.Y) && below(len(g.Fields), a.F)
	case api.DoCut:
		return below(g.Vars, a.X) && below(len(g.Fields), a.F)
	case api.DoNew:
		return below(g.Vars, a.X) && below(g.Structs, a.T)
	case api.DoTake:
		return below(g.Ints, a.X)
	case api.DoPut:
		// Where there is no R, its Var is 0: that is there, if X is.
		return below(g.Ints, a.X, a.L.Var, a.R.Var)
	case api.DoTest:
		return below(g.Ints, a.L.Var, a.R.Var)
	}
	return true
}

// below tells whether all that is named is below count: -1 names nothing, be it null or a number.
func below(count int, named ...int) bool {
	for _, n := range named {
		if n >= 0 && n >= count {
			return false
		}
	}
	return true
}

// Right tells whether g can be run: nothing in it is what may not be, it is known how each point goes on, and there is a Head on each circle.
func Right(g api.Graph) bool {
	return pointsFit(g) && countsFit(g) && headsFit(g) && edgesFit(g) && goesOn(g) && Cut(g)
}

func pointsFit(g api.Graph) bool {
	return within(g.Points, 1, api.MaxPoints) && isPoint(g, g.Start) && isPoint(g, g.End) && within(g.EndAt, 0, api.MaxSource)
}

func countsFit(g api.Graph) bool {
	if !within(g.Vars, 0, api.MaxVars) || !within(g.Ints, 0, api.MaxInts) || !within(g.Structs, 0, api.MaxStructs) || len(g.Fields) > api.MaxFields {
		return false
	}
	for _, f := range g.Fields {
		if !within(f.Owner, 0, g.Structs-1) || !within(f.Target, 0, g.Structs-1) {
			return false
		}
	}
	return true
}

func headsFit(g api.Graph) bool {
	last := -1
	for _, head := range g.Heads {
		if head <= last || head >= g.Points {
			return false
		}
		last = head
	}
	return true
}

func edgesFit(g api.Graph) bool {
	if len(g.Edges) > maxEdges {
		return false
	}
	for _, e := range g.Edges {
		if !isPoint(g, e.From) || !isPoint(g, e.To) || !Has(g, e.Act) {
			return false
		}
	}
	return true
}

// goesOn tells whether no edge leads from End, and those from each other point that Start comes to leave just one way at each time.
func goesOn(g api.Graph) bool {
	w := woven(g)
	for point, come := range From(g, g.Start) {
		if point == g.End {
			if len(w[point]) > 0 {
				return false
			}
		} else if come && !decides(w[point]) {
			return false
		}
	}
	return true
}

// decides tells whether these are all edges of a point that is no End: one that is no Branch, or two Branches for what holds and what does not.
func decides(outs []api.Edge) bool {
	switch len(outs) {
	case 1:
		return !action.Branch(outs[0].Act)
	case 2:
		return action.Branch(outs[0].Act) && outs[1].Act == action.Not(outs[0].Act)
	}
	return false
}
