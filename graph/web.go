package graph

import (
	"iter"

	"umbral/api"
)

// maxEdges is how many edges a graph may have.
const maxEdges = 4000

// web holds the edges that lead from points to points, by the points from which they lead.
type web [][]api.Edge

// woven tells g's web; one without points, if g has too much.
func woven(g api.Graph) web {
	if !within(g.Points, 1, api.MaxPoints) || len(g.Edges) > maxEdges {
		return nil
	}
	w := make(web, g.Points)
	for _, e := range g.Edges {
		if isPoint(g, e.From) && isPoint(g, e.To) {
			w[e.From] = append(w[e.From], e)
		}
	}
	return w
}

func within(n, least, most int) bool { return least <= n && n <= most }

func isPoint(g api.Graph, at int) bool { return 0 <= at && at < g.Points }

// taken tells the edges from a point, in order, and takes each one out of the web.
func (w web) taken(at int) iter.Seq[api.Edge] {
	return func(yield func(api.Edge) bool) {
		for len(w[at]) > 0 {
			e := w[at][0]
			w[at] = w[at][1:]
			if !yield(e) {
				return
			}
		}
	}
}

// steps tells for each point how many edges there are on the shortest way from start to it, -1 if there is none.
func (w web) steps(start int) []int {
	steps := make([]int, len(w))
	for point := range steps {
		steps[point] = -1
	}
	if start < 0 || start >= len(w) {
		return steps
	}
	steps[start] = 0
	open := []int{start}
	for len(open) > 0 {
		at := open[0]
		open = open[1:]
		for e := range w.taken(at) {
			if steps[e.To] < 0 {
				steps[e.To] = steps[at] + 1
				open = append(open, e.To)
			}
		}
	}
	return steps
}

// mark tells how far a search for circles is with a point.
type mark uint8

const (
	fresh mark = iota
	onWay      // on the way that is being gone
	shut       // one comes to no circle from it
)

// loops tells whether one comes from some point to it again.
func (w web) loops() bool {
	marks := make([]mark, len(w))
	for point := range w {
		if marks[point] == fresh && w.circles(point, marks) {
			return true
		}
	}
	return false
}

// circles tells whether one comes from start to some point twice on one way.
func (w web) circles(start int, marks []mark) bool {
	open := []int{start}
points:
	for len(open) > 0 {
		at := open[len(open)-1]
		marks[at] = onWay
		for e := range w.taken(at) {
			switch marks[e.To] {
			case onWay:
				return true
			case fresh:
				// What is left of at's edges is gone over when the way comes back to it.
				open = append(open, e.To)
				continue points
			}
		}
		marks[at] = shut
		open = open[:len(open)-1]
	}
	return false
}
