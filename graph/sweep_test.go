package graph_test

import (
	"math"
	"math/rand"
	"slices"
	"testing"

	"umbral/api"
	"umbral/graph"
)

// All graphs of up to three points, and of each pair of points with an edge or none.
func TestAllSmallGraphs(t *testing.T) {
	for points := 1; points <= 3; points++ {
		for set := range 1 << (points * points) {
			var edges []api.Edge
			for i := range points * points {
				if set>>i&1 == 1 {
					edges = append(edges, edge(i/points, i%points))
				}
			}
			for heads := range 1 << points {
				g := api.Graph{Points: points, Edges: edges, End: points - 1}
				for head := range points {
					if heads>>head&1 == 1 {
						g.Heads = append(g.Heads, head)
					}
				}
				for g.Start = range points {
					holdRight(t, g)
				}
				holdWays(t, g)
			}
		}
	}
}

func TestAllGraphsOfFourPoints(t *testing.T) {
	g := api.Graph{Points: 4, Edges: make([]api.Edge, 16)}
	for set := range 1 << 16 {
		g.Edges = g.Edges[:0]
		for i := range 16 {
			if set>>i&1 == 1 {
				g.Edges = append(g.Edges, edge(i%4, i/4))
			}
		}
		g.Heads = []int{set % 5, set % 7}
		holdLoops(t, g)
		g.Heads = nil
		if graph.Loops(g) == graph.Cut(g) {
			t.Errorf("Loops and Cut of %s without Heads: both %v", short(g), graph.Cut(g))
		}
	}
}

// All lists of up to four edges with points and what is none.
func TestAllShortLists(t *testing.T) {
	ends := []int{-1, 0, 1, 2}
	var grow func(edges []api.Edge)
	grow = func(edges []api.Edge) {
		g := api.Graph{Points: 2, End: 1, Edges: edges}
		holdLoops(t, g)
		for _, at := range ends {
			if got, want := graph.From(g, at), comesOf(g, at); !slices.Equal(got, want) {
				t.Errorf("From(%s, %d): %v, want %v", short(g), at, got, want)
			}
		}
		g.Heads = []int{1}
		holdLoops(t, g)
		if len(edges) == 4 {
			return
		}
		for _, from := range ends {
			for _, to := range ends {
				grow(append(edges[:len(edges):len(edges)], edge(from, to)))
			}
		}
	}
	grow(nil)
}

// All lists of up to three edges with some actions.
func TestAllRightLists(t *testing.T) {
	acts := []api.Action{act(t, "skip @1"), act(t, "pick yes @1"), act(t, "pick no @1"), act(t, "pick no @2")}
	right := 0
	var grow func(edges []api.Edge)
	grow = func(edges []api.Edge) {
		for start := range 2 {
			for _, heads := range [][]int{nil, {0}} {
				if holdRight(t, api.Graph{Points: 3, Start: start, End: 2, Heads: heads, Edges: edges}) {
					right++
				}
			}
		}
		if len(edges) == 3 {
			return
		}
		for from := range 3 {
			for to := range 3 {
				for _, a := range acts {
					grow(append(edges[:len(edges):len(edges)], api.Edge{From: from, To: to, Act: a}))
				}
			}
		}
	}
	grow(nil)
	if right < 500 {
		t.Errorf("only %d graphs are Right", right)
	}
}

// anyGraph is a graph by lot: points and what is none, actions of few kinds, Heads of any order.
func anyGraph(r *rand.Rand) api.Graph {
	g := api.Graph{Points: r.Intn(9) - 1, Start: r.Intn(9) - 1, End: r.Intn(9) - 1, EndAt: r.Intn(3), Vars: r.Intn(4) - 1, Ints: r.Intn(4) - 1, Structs: r.Intn(4) - 1}
	for range r.Intn(14) {
		a := api.Action{Kind: r.Intn(14), X: r.Intn(3), At: r.Intn(3)}
		if r.Intn(2) == 0 {
			a = api.Action{}
		}
		g.Edges = append(g.Edges, api.Edge{From: r.Intn(g.Points+3) - 1, To: r.Intn(g.Points+3) - 1, Act: a})
	}
	for range r.Intn(4) {
		g.Heads = append(g.Heads, r.Intn(g.Points+3)-1)
	}
	for range r.Intn(3) {
		g.Fields = append(g.Fields, api.Field{Owner: r.Intn(3), Target: r.Intn(3)})
	}
	return g
}

func TestAnyGraphs(t *testing.T) {
	r := lot(12)
	for range 4000 {
		holdAll(t, anyGraph(r))
	}
}

// likelyRight is a graph by lot that is mostly Right: each point leads on to one or to two, and all points to which one comes back are Heads.
func likelyRight(t *testing.T, r *rand.Rand) api.Graph {
	t.Helper()
	points := 2 + r.Intn(12)
	g := api.Graph{Points: points, End: points - 1, EndAt: r.Intn(65537), Vars: 1 + r.Intn(24), Ints: 1 + r.Intn(24), Structs: 1 + r.Intn(8)}
	for range r.Intn(9) {
		g.Fields = append(g.Fields, api.Field{Owner: r.Intn(g.Structs), Target: r.Intn(g.Structs)})
	}
	plain := []api.Action{act(t, "skip @5"), act(t, "null p0 @6"), act(t, "new p0 s0 @7"), act(t, "take i0 @8")}
	branch := []api.Action{act(t, "pick yes @5"), act(t, "same p0 null no @6"), act(t, "test i0 == 7 yes @7")}
	back := make([]bool, points)
	for from := range points - 1 {
		ends := []int{r.Intn(points), r.Intn(points)}
		a := branch[r.Intn(3)]
		acts := []api.Action{a, notOf(a)}
		if r.Intn(2) == 0 {
			ends, acts = ends[:1], []api.Action{plain[r.Intn(4)]}
		}
		for i, to := range ends {
			g.Edges = append(g.Edges, api.Edge{From: from, To: to, Act: acts[i]})
			back[to] = back[to] || to <= from
		}
	}
	for point, is := range back {
		if is {
			g.Heads = append(g.Heads, point)
		}
	}
	return g
}

// spoil makes something of a graph another one.
func spoil(r *rand.Rand, g *api.Graph) {
	off := r.Intn(3) - 1
	numbers := []*int{&g.Points, &g.Start, &g.End, &g.EndAt, &g.Vars, &g.Ints, &g.Structs}
	for i := range g.Edges {
		numbers = append(numbers, &g.Edges[i].From, &g.Edges[i].To, &g.Edges[i].Act.At, &g.Edges[i].Act.Kind, &g.Edges[i].Act.X)
	}
	for i := range g.Heads {
		numbers = append(numbers, &g.Heads[i])
	}
	for i := range g.Fields {
		numbers = append(numbers, &g.Fields[i].Owner, &g.Fields[i].Target)
	}
	switch r.Intn(5) {
	case 0:
		i := r.Intn(len(g.Edges))
		g.Edges = slices.Delete(g.Edges, i, i+1)
	case 1:
		i, j := r.Intn(len(g.Edges)), r.Intn(len(g.Edges))
		g.Edges[i], g.Edges[j] = g.Edges[j], g.Edges[i]
	default:
		*numbers[r.Intn(len(numbers))] += off
	}
}

func TestLikelyRightGraphs(t *testing.T) {
	r := lot(13)
	right, spoilt := 0, 0
	for range 3000 {
		g := likelyRight(t, r)
		if holdRight(t, g) {
			right++
		}
		holdWays(t, g)
		for range 4 {
			other := copied(withRoom(g))
			spoil(r, &other)
			if !holdRight(t, other) {
				spoilt++
			}
		}
	}
	if right < 2000 || spoilt < 2000 {
		t.Errorf("%d graphs are Right, %d that were spoilt are not", right, spoilt)
	}
}

// Ways as long as they can be, and points with as many edges as there may be.
func TestGreatGraphs(t *testing.T) {
	var there, back, star []api.Edge
	for point := range 1999 {
		there = append(there, edge(point, point+1))
		back = append([]api.Edge{edge(point+1, point)}, back...)
		star = append(star, edge(0, point+1), edge(point+1, 0))
	}
	for _, edges := range [][]api.Edge{there, back, star, slices.Concat(there, back), slices.Concat(back, there), slices.Concat(there, links(1999, 0)), slices.Concat(links(1999, 1999), there), slices.Repeat(links(1998, 1999), 2000)} {
		for _, start := range []int{0, 1000, 1999} {
			g := api.Graph{Points: 2000, Start: start, End: 1999, Edges: edges}
			if got, want := graph.Depth(g), waysOf(g, start); !slices.Equal(got, want) {
				t.Errorf("Depth(%s): %.200v", short(g), got)
			}
			if got, want := graph.From(g, start), comesOf(g, start); !slices.Equal(got, want) {
				t.Errorf("From(%s, %d): %.200v", short(g), start, got)
			}
		}
	}
	for want, edges := range map[bool][]api.Edge{false: there, true: slices.Concat(there, links(1999, 0))} {
		for _, l := range [][]api.Edge{edges, slices.Concat(edges[1000:], edges[:1000])} {
			if graph.Loops(api.Graph{Points: 2000, Edges: l}) != want || graph.Cut(api.Graph{Points: 2000, Edges: l}) == want || !graph.Cut(api.Graph{Points: 2000, Heads: []int{0}, Edges: l}) {
				t.Errorf("a way of 2000 points: Loops is not %v", want)
			}
		}
	}
}

// Long lists end all calls as soon.
func TestLongLists(t *testing.T) {
	const long = 1 << 18
	heads := make([]int, long)
	for i := range heads {
		heads[i] = long - i
	}
	g := api.Graph{Points: 2000, Edges: slices.Repeat(links(5, 7, 9, 11), long/2), Heads: heads, Fields: make([]api.Field, long)}
	if graph.Right(g) || graph.Loops(g) || !graph.Cut(g) || len(graph.From(g, 5)) != 0 || len(graph.Depth(g)) != 0 || len(graph.Outs(g, 9)) != long/2 {
		t.Error("a graph with long lists")
	}
	g.Edges = links(5, 7, 7, 5)
	if !graph.Loops(g) || !graph.Cut(g) || graph.Right(g) {
		t.Error("a graph with many Heads")
	}
	g.Points = math.MaxInt
	if graph.Loops(g) || !graph.Cut(g) || len(graph.From(g, 5)) != 0 || graph.Right(g) {
		t.Error("a graph with as many points as can be")
	}
}
