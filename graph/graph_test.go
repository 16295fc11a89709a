package graph_test

import (
	"math"
	"slices"
	"strings"
	"testing"

	"umbral/api"
	"umbral/graph"
)

func TestExamples(t *testing.T) {
	g := api.Graph{Points: 2, Start: 0, End: 1, Edges: []api.Edge{{From: 0, To: 1, Act: api.Action{Kind: api.DoSkip}}}}
	if !graph.Right(g) || graph.Loops(g) || !graph.Cut(g) || !slices.Equal(graph.Depth(g), []int{0, 1}) || graph.Text(g) != "0 -> 1 skip @0\n" {
		t.Errorf("the example: %v, %v, %v, %v, %q", graph.Right(g), graph.Loops(g), graph.Cut(g), graph.Depth(g), graph.Text(g))
	}
	holdAll(t, g)
}

// P12.1
func TestOuts(t *testing.T) {
	first := api.Edge{From: 1, To: 2, Act: api.Action{Kind: api.DoPick, At: 5, Sense: true}}
	second := api.Edge{From: 1, To: 0, Act: api.Action{Kind: api.DoPick, At: 5}}
	third := api.Edge{From: 1, To: -4, Act: api.Action{Kind: -9, X: math.MinInt}}
	g := api.Graph{Points: 3, Edges: []api.Edge{first, edge(0, 1), second, edge(-1, 2), edge(3, 0), third, first, edge(math.MinInt, 1), edge(math.MaxInt, 1)}}
	for at, want := range map[int][]api.Edge{
		0:               {edge(0, 1)},
		1:               {first, second, third, first},
		2:               nil,
		-1:              {edge(-1, 2)},
		-2:              nil,
		3:               {edge(3, 0)},
		4:               nil,
		math.MinInt:     {edge(math.MinInt, 1)},
		math.MaxInt:     {edge(math.MaxInt, 1)},
		math.MaxInt - 1: nil,
	} {
		if got := graph.Outs(g, at); !slices.Equal(got, want) {
			t.Errorf("Outs of %d: %v, want %v", at, got, want)
		}
		for _, none := range []api.Graph{{}, {Points: 3}, {Points: 3, Edges: []api.Edge{}}} {
			if got := graph.Outs(none, at); len(got) != 0 {
				t.Errorf("Outs of %d without edges: %v", at, got)
			}
		}
	}
	holdAll(t, g)
}

// Outs tells edges of graphs too of which From tells nothing.
func TestOutsOfOtherGraphs(t *testing.T) {
	many := slices.Repeat([]api.Edge{edge(0, 1), edge(1, 1)}, 2001)
	for _, points := range []int{math.MinInt, -1, 0, 1, 2, 2000, 2001, math.MaxInt} {
		g := api.Graph{Points: points, Edges: many}
		if got := graph.Outs(g, 0); len(got) != 2001 || got[0] != edge(0, 1) || got[2000] != edge(0, 1) {
			t.Errorf("Outs of %d points: %d edges", points, len(got))
		}
	}
}

// way is a graph's edges, and what From tells of a point.
type way struct {
	points int
	edges  []api.Edge
	at     int
	want   string // by point: + if one comes to it
}

func TestFrom(t *testing.T) {
	for _, w := range []way{
		{1, nil, 0, "+"},
		{1, nil, 1, "-"},
		{1, nil, -1, "-"},
		{1, links(0, 0), 0, "+"},
		{3, nil, 1, "-+-"},
		{3, links(0, 1), 0, "++-"},
		{3, links(0, 1), 1, "-+-"},
		{3, links(0, 1), 2, "--+"},
		{3, links(1, 2, 0, 1), 0, "+++"},
		{3, links(2, 1, 1, 0), 2, "+++"},
		{3, links(2, 1, 1, 0), 1, "++-"},
		{4, links(0, 1, 1, 2, 2, 0), 2, "+++-"},
		{4, links(0, 1, 1, 2, 2, 0), 3, "---+"},
		{4, links(0, 1, 0, 2, 1, 3, 2, 3), 0, "++++"},
		{4, links(0, 1, 0, 1, 0, 1), 0, "++--"},
		{5, links(0, 0, 0, 4, 4, 0, 1, 2), 4, "+---+"},
		{3, links(0, -1, -1, 2), 0, "+--"},
		{3, links(0, 3, 3, 2), 0, "+--"},
		{3, links(0, math.MaxInt, math.MaxInt, 2), 0, "+--"},
		{3, links(0, math.MinInt, math.MinInt, 2), 0, "+--"},
		{3, links(-1, 0), -1, "---"},
		{3, links(3, 0), 3, "---"},
		{3, links(-1, 0, 3, 1), 2, "--+"},
		{3, links(math.MinInt, 0), math.MinInt, "---"},
		{3, links(math.MaxInt, 0), math.MaxInt, "---"},
	} {
		g := api.Graph{Points: w.points, Edges: w.edges}
		got := ""
		for _, come := range graph.From(g, w.at) {
			got += map[bool]string{true: "+", false: "-"}[come]
		}
		if got != w.want {
			t.Errorf("From(%s, %d): %s, want %s", short(g), w.at, got, w.want)
		}
		holdAll(t, g)
	}
}

// What From tells nothing of, it is nothing of at all calls that go by it.
func TestLimits(t *testing.T) {
	for _, points := range []int{math.MinInt, -1, 0, 1, 2, 1999, 2000, 2001, math.MaxInt} {
		for _, edges := range []int{0, 1, 3999, 4000, 4001, 9000} {
			g := api.Graph{Points: points, Edges: slices.Repeat([]api.Edge{edge(0, 0)}, edges)}
			tells := within(points, 1, 2000) && edges <= 4000
			long := 0
			if tells {
				long = points
			}
			if got := graph.From(g, 0); len(got) != long || tells && (!got[0] || slices.Contains(got[1:], true)) {
				t.Errorf("From of %d points, %d edges: %d points", points, edges, len(got))
			}
			if got := graph.Depth(g); len(got) != long || tells && got[0] != 0 {
				t.Errorf("Depth of %d points, %d edges: %d points", points, edges, len(got))
			}
			loops := tells && edges > 0
			if got := graph.Loops(g); got != loops {
				t.Errorf("Loops of %d points, %d edges: %v", points, edges, got)
			}
			if got := graph.Cut(g); got == loops {
				t.Errorf("Cut of %d points, %d edges: %v", points, edges, got)
			}
			g.Heads = []int{0}
			if !graph.Cut(g) || graph.Loops(g) != loops {
				t.Errorf("Cut and Loops with a Head of %d points, %d edges: %v, %v", points, edges, graph.Cut(g), graph.Loops(g))
			}
		}
	}
}

// The edges that lead to a Head are away ahead of the count.
func TestCutCountsWhatIsLeft(t *testing.T) {
	for _, left := range []int{4000, 4001} {
		g := api.Graph{Points: 3, Heads: []int{2}, Edges: slices.Concat(links(0, 2, 1, 2), slices.Repeat(links(0, 1, 1, 0), left/2), links(0, 1)[:left%2])}
		if graph.Loops(g) || graph.Cut(g) != (left > 4000) {
			t.Errorf("Loops and Cut of %d edges, of which two lead to a Head: %v, %v", left+2, graph.Loops(g), graph.Cut(g))
		}
		holdLoops(t, g)
	}
}

// round is a graph's edges and Heads, whether it Loops, and whether it is Cut.
type round struct {
	points int
	edges  []api.Edge
	heads  []int
	loops  bool
	cut    bool
}

func TestLoopsAndCut(t *testing.T) {
	two := links(0, 1, 1, 2, 2, 1, 2, 3, 3, 4, 4, 3)
	for _, r := range []round{
		{1, nil, nil, false, true},
		{1, nil, []int{0}, false, true},
		{3, links(0, 1, 1, 2, 0, 2), nil, false, true},
		{4, links(0, 1, 0, 2, 1, 3, 2, 3), nil, false, true},
		{4, links(0, 1, 0, 1, 0, 1), nil, false, true},
		{1, links(0, 0), nil, true, false},
		{1, links(0, 0), []int{0}, true, true},
		{2, links(1, 1), []int{0}, true, false},
		{2, links(0, 1, 1, 0), nil, true, false},
		{2, links(0, 1, 1, 0), []int{0}, true, true},
		{2, links(0, 1, 1, 0), []int{1}, true, true},
		{3, links(0, 1, 1, 2, 2, 0), []int{2}, true, true},
		{3, links(1, 2, 2, 1), nil, true, false}, // Start does not come to it
		{3, links(1, 2, 2, 1), []int{0}, true, false},
		{3, links(1, 2, 2, 1), []int{2}, true, true},
		{5, two, nil, true, false},
		{5, two, []int{1}, true, false},
		{5, two, []int{4}, true, false},
		{5, two, []int{1, 3}, true, true},
		{5, two, []int{2, 4}, true, true},
		{5, two, []int{4, 2}, true, true},
		{5, two, []int{4, 4, 1, 1}, true, true},
		{5, two, []int{3, 3}, true, false},
		{5, two, []int{0}, true, false},
		{5, two, []int{-1, 5, 9, math.MinInt, math.MaxInt}, true, false},
		{5, two, []int{-1, 5, 3, math.MaxInt, 1, math.MinInt}, true, true},
		{3, links(0, -1, -1, 0), nil, false, true},
		{3, links(0, 3, 3, 0), nil, false, true},
		{3, links(-1, -1, 3, 3), nil, false, true},
		{3, links(math.MinInt, math.MinInt, math.MaxInt, math.MaxInt), nil, false, true},
		{0, links(0, 0), nil, false, true},
		{-1, links(0, 0, -1, -1), nil, false, true},
		{2001, links(0, 0), nil, false, true},
		{2001, links(0, 0), []int{0}, false, true},
	} {
		g := api.Graph{Points: r.points, Edges: r.edges, Heads: r.heads}
		if got := graph.Loops(g); got != r.loops {
			t.Errorf("Loops(%s): %v", short(g), got)
		}
		if got := graph.Cut(g); got != r.cut {
			t.Errorf("Cut(%s): %v", short(g), got)
		}
		for range 3 {
			holdAll(t, g)
			g.Edges = append(slices.Clone(g.Edges[min(1, len(g.Edges)):]), g.Edges[:min(1, len(g.Edges))]...)
		}
	}
}

// P12.3
func TestDepth(t *testing.T) {
	for _, d := range []struct {
		start  int
		edges  []api.Edge
		points int
		want   []int
	}{
		{0, nil, 1, []int{0}},
		{0, links(0, 0), 1, []int{0}},
		{0, nil, 3, []int{0, -1, -1}},
		{1, nil, 3, []int{-1, 0, -1}},
		{-1, links(-1, 0, 0, 1), 3, []int{-1, -1, -1}},
		{3, links(3, 0, 0, 1), 3, []int{-1, -1, -1}},
		{math.MinInt, nil, 2, []int{-1, -1}},
		{math.MaxInt, nil, 2, []int{-1, -1}},
		{0, links(0, 1, 1, 2, 2, 3), 4, []int{0, 1, 2, 3}},
		{3, links(0, 1, 1, 2, 2, 3), 4, []int{-1, -1, -1, 0}},
		{2, links(2, 3, 3, 0, 0, 1, 1, 2), 4, []int{2, 3, 0, 1}},
		{0, links(0, 1, 1, 2, 2, 3, 0, 3), 4, []int{0, 1, 2, 1}},
		{0, links(0, 3, 0, 1, 1, 2, 2, 3), 4, []int{0, 1, 2, 1}},
		{0, links(0, 1, 1, 2, 2, 3, 3, 4, 0, 5, 5, 4), 6, []int{0, 1, 2, 3, 2, 1}},
		{0, links(0, 5, 5, 4, 0, 1, 1, 2, 2, 3, 3, 4, 4, 3), 6, []int{0, 1, 2, 3, 2, 1}},
		{0, links(0, 1, 1, 1, 1, 0, 1, 2), 3, []int{0, 1, 2}},
		{0, links(0, -1, -1, 2, 0, 3, 3, 1), 3, []int{0, -1, -1}},
		{0, links(2, 1, 1, 0), 3, []int{0, -1, -1}},
		{0, nil, 0, nil},
		{0, links(0, 1), -1, nil},
		{0, links(0, 1), 2001, nil},
	} {
		g := api.Graph{Points: d.points, Start: d.start, End: d.points - 1, Edges: d.edges}
		if got := graph.Depth(g); !slices.Equal(got, d.want) {
			t.Errorf("Depth(%s): %v, want %v", short(g), got, d.want)
		}
		holdAll(t, g)
	}
}

func TestText(t *testing.T) {
	for want, g := range map[string]api.Graph{
		"":                                   {},
		"0 -> 0 skip @0\n":                   {Edges: make([]api.Edge, 1)},
		"0 -> 1 skip @0\n1 -> 2 skip @0\n":   {Points: 3, Edges: links(0, 1, 1, 2)},
		"1 -> 2 skip @0\n0 -> 1 skip @0\n":   {Points: 2001, Edges: links(1, 2, 0, 1)},
		"10 -> 1999 load p1 p2 f0 @7\n":      {Edges: []api.Edge{{From: 10, To: 1999, Act: act(t, "load p1 p2 f0 @7")}}},
		"7 -> 7 test i0 < 3 no @65536\n":     {Edges: []api.Edge{{From: 7, To: 7, Act: act(t, "test i0 < 3 no @65536")}}},
		"3 -> 4 \n4 -> 5 pick yes @1\n":      {Edges: []api.Edge{{From: 3, To: 4, Act: api.Action{At: -1}}, {From: 4, To: 5, Act: act(t, "pick yes @1")}}},
		"0 -> 1 \n":                          {Points: 2, Edges: []api.Edge{{To: 1, Act: api.Action{Kind: 13}}}},
		"-1 -> -12 skip @0\n":                {Edges: links(-1, -12)},
		"-9223372036854775808 -> 0 \n":       {Edges: []api.Edge{{From: math.MinInt, Act: api.Action{Kind: math.MinInt}}}},
		"1 -> 9223372036854775807 skip @0\n": {Edges: links(1, math.MaxInt)},
	} {
		if got := graph.Text(g); got != want {
			t.Errorf("Text(%s): %q, want %q", short(g), got, want)
		}
		holdAll(t, g)
	}
}

func TestTextOfManyEdges(t *testing.T) {
	if got := graph.Text(api.Graph{Edges: slices.Repeat(links(12, 3), 100000)}); got != strings.Repeat("12 -> 3 skip @0\n", 100000) {
		t.Errorf("100000 edges: %d bytes", len(got))
	}
}
