package graph_test

import (
	"fmt"
	"math"
	"math/rand"
	"reflect"
	"regexp"
	"slices"
	"strconv"
	"testing"

	"umbral/action"
	"umbral/api"
	"umbral/graph"
)

// within tells whether n is a number from least to most.
func within(n, least, most int) bool { return least <= n && n <= most }

// told is whether From tells anything.
func told(g api.Graph) bool { return within(g.Points, 1, 2000) && len(g.Edges) <= 4000 }

// outsOf is what Outs is to tell.
func outsOf(g api.Graph, at int) []api.Edge {
	outs := []api.Edge{}
	for i := range g.Edges {
		if g.Edges[i].From == at {
			outs = append(outs, g.Edges[i])
		}
	}
	return outs
}

// waysOf is by point the length of the shortest way to it, -1 without: edges are tried till none makes a way shorter.
func waysOf(g api.Graph, at int) []int {
	if !told(g) {
		return nil
	}
	far := g.Points + 1
	ways := make([]int, g.Points)
	for i := range ways {
		ways[i] = far
		if i == at {
			ways[i] = 0
		}
	}
	for shorter := true; shorter; {
		shorter = false
		for _, e := range g.Edges {
			if within(e.From, 0, g.Points-1) && within(e.To, 0, g.Points-1) && ways[e.From]+1 < ways[e.To] {
				ways[e.To], shorter = ways[e.From]+1, true
			}
		}
	}
	for i := range ways {
		if ways[i] == far {
			ways[i] = -1
		}
	}
	return ways
}

// comesOf is what From is to tell.
func comesOf(g api.Graph, at int) []bool {
	comes := []bool{}
	for _, n := range waysOf(g, at) {
		comes = append(comes, n != -1)
	}
	return comes
}

// loopsOf is what Loops is to tell: behind some edge one comes to where it leads from.
func loopsOf(g api.Graph) bool {
	if !told(g) {
		return false
	}
	behind := map[int][]bool{}
	for _, e := range g.Edges {
		if behind[e.To] == nil {
			behind[e.To] = comesOf(g, e.To)
		}
		if within(e.From, 0, g.Points-1) && behind[e.To][e.From] {
			return true
		}
	}
	return false
}

// cutOf is what Cut is to tell.
func cutOf(g api.Graph) bool {
	g.Edges = slices.DeleteFunc(slices.Clone(g.Edges), func(e api.Edge) bool { return slices.Contains(g.Heads, e.To) })
	return !loopsOf(g)
}

// naming is what an action's Text tells of what the graph must have.
var naming = regexp.MustCompile(` ([pifs])([0-9]+)`)

// hasOf is what Has is to tell, by the action's Text.
func hasOf(g api.Graph, a api.Action) bool {
	text := action.Text(a)
	for _, m := range naming.FindAllStringSubmatch(text, -1) {
		n, _ := strconv.Atoi(m[2])
		most := map[string]int{"p": g.Vars, "i": g.Ints, "f": len(g.Fields), "s": g.Structs}[m[1]]
		if n >= most {
			return false
		}
	}
	return text != ""
}

// rightOf is what Right is to tell.
func rightOf(g api.Graph) bool {
	points := within(g.Points, 1, 2000) && within(g.Start, 0, g.Points-1) && within(g.End, 0, g.Points-1)
	counts := within(g.EndAt, 0, 65536) && within(g.Vars, 0, 24) && within(g.Ints, 0, 24) && within(g.Structs, 0, 8)
	if !points || !counts || len(g.Fields) > 8 || len(g.Edges) > 4000 {
		return false
	}
	for _, f := range g.Fields {
		if min(f.Owner, f.Target) < 0 || max(f.Owner, f.Target) >= g.Structs {
			return false
		}
	}
	for i, head := range g.Heads {
		if !within(head, 0, g.Points-1) || i > 0 && head <= g.Heads[i-1] {
			return false
		}
	}
	for _, e := range g.Edges {
		if !within(e.From, 0, g.Points-1) || !within(e.To, 0, g.Points-1) || !hasOf(g, e.Act) || e.From == g.End {
			return false
		}
	}
	for at, come := range comesOf(g, g.Start) {
		outs := outsOf(g, at)
		one := len(outs) == 1 && !branchOf(outs[0].Act)
		two := len(outs) == 2 && branchOf(outs[0].Act) && outs[1].Act == notOf(outs[0].Act)
		if come && at != g.End && !one && !two {
			return false
		}
	}
	return cutOf(g)
}

func branchOf(a api.Action) bool { return a.Kind == 8 || a.Kind == 9 || a.Kind == 12 }

func notOf(a api.Action) api.Action {
	a.Sense = !a.Sense
	return a
}

// textOf is what Text is to tell.
func textOf(g api.Graph) string {
	text := ""
	for _, e := range g.Edges {
		text += fmt.Sprintf("%d -> %d %s\n", e.From, e.To, action.Text(e.Act))
	}
	return text
}

// places are points, and what is none.
func places(g api.Graph) []int {
	l := []int{math.MinInt, -2, -1, g.Points, g.Points + 1, 1999, 2000, math.MaxInt}
	for at := range min(max(g.Points, 0), 6) {
		l = append(l, at)
	}
	for _, e := range g.Edges[:min(len(g.Edges), 4)] {
		l = append(l, e.From, e.To)
	}
	return l
}

// short tells a graph in a line that is not too long.
func short(g api.Graph) string { return fmt.Sprintf("%.600s", fmt.Sprintf("%+v", g)) }

// holdWays holds Outs, From, Loops, Cut and Depth against the model.
func holdWays(t *testing.T, g api.Graph) {
	t.Helper()
	for _, at := range places(g) {
		if got, want := graph.Outs(g, at), outsOf(g, at); !slices.Equal(got, want) {
			t.Errorf("Outs(%s, %d): %v, want %v", short(g), at, got, want)
		}
		if got, want := graph.From(g, at), comesOf(g, at); !slices.Equal(got, want) {
			t.Errorf("From(%s, %d): %v, want %v", short(g), at, got, want)
		}
	}
	if got, want := graph.Depth(g), waysOf(g, g.Start); !slices.Equal(got, want) {
		t.Errorf("Depth(%s): %v, want %v", short(g), got, want)
	}
	holdLoops(t, g)
}

// holdLoops holds Loops and Cut against the model, and against each other.
func holdLoops(t *testing.T, g api.Graph) {
	t.Helper()
	loops, cut := graph.Loops(g), graph.Cut(g)
	if want := loopsOf(g); loops != want {
		t.Errorf("Loops(%s): %v", short(g), loops)
	}
	if want := cutOf(g); cut != want {
		t.Errorf("Cut(%s): %v", short(g), cut)
	}
	if cut && loops && len(g.Heads) == 0 {
		t.Errorf("%s is Cut, has no Heads, and has loops", short(g))
	}
}

// holdRight holds Right and Has against the model.
func holdRight(t *testing.T, g api.Graph) bool {
	t.Helper()
	got, want := graph.Right(g), rightOf(g)
	if got != want {
		t.Errorf("Right(%s): %v", short(g), got)
	}
	for _, e := range g.Edges[:min(len(g.Edges), 8)] {
		if got, want := graph.Has(g, e.Act), hasOf(g, e.Act); got != want {
			t.Errorf("Has(%s, %+v): %v", short(g), e.Act, got)
		}
	}
	return got
}

// holdAll holds all calls against the model, what was handed in against what it was, and what is answered against what is answered again.
func holdAll(t *testing.T, g api.Graph) {
	t.Helper()
	roomy := withRoom(g)
	before := copied(roomy)
	for range 2 {
		holdWays(t, roomy)
		holdRight(t, roomy)
		if got, want := graph.Text(roomy), textOf(g); got != want {
			t.Errorf("Text(%s): %.300q, want %.300q", short(g), got, want)
		}
	}
	spoilAnswers(roomy)
	holdWays(t, roomy)
	if !reflect.DeepEqual(rooms(roomy), rooms(before)) {
		t.Errorf("%s was changed", short(g))
	}
}

// spoilAnswers writes over all lists that are answered, and over their spare room.
func spoilAnswers(g api.Graph) {
	for _, at := range places(g) {
		outs, comes := graph.Outs(g, at), graph.From(g, at)
		outs, comes = outs[:cap(outs)], comes[:cap(comes)]
		for i := range outs {
			outs[i] = api.Edge{From: 77, To: 78, Act: api.Action{Kind: 79}}
		}
		for i := range comes {
			comes[i] = !comes[i]
		}
	}
	depth := graph.Depth(g)
	depth = depth[:cap(depth)]
	for i := range depth {
		depth[i] = -77
	}
}

// withRoom is a graph whose lists have room behind them, with something in it.
func withRoom(g api.Graph) api.Graph {
	g.Edges = roomBehind(g.Edges, api.Edge{From: 0, To: 0, Act: api.Action{Kind: 3, X: 9}})
	g.Heads = roomBehind(g.Heads, 0)
	g.Fields = roomBehind(g.Fields, api.Field{Owner: 5, Target: 6})
	return g
}

func roomBehind[T any](l []T, more T) []T {
	return append(append(make([]T, 0, len(l)+3), l...), more, more, more)[:len(l)]
}

// copied is a graph that shares no memory with g, room included.
func copied(g api.Graph) api.Graph {
	g.Edges = slices.Clone(g.Edges[:cap(g.Edges)])[:len(g.Edges)]
	g.Heads = slices.Clone(g.Heads[:cap(g.Heads)])[:len(g.Heads)]
	g.Fields = slices.Clone(g.Fields[:cap(g.Fields)])[:len(g.Fields)]
	return g
}

// rooms is all that lies in g, in the first three places behind its lists too.
func rooms(g api.Graph) api.Graph {
	g.Edges, g.Heads, g.Fields = g.Edges[:len(g.Edges)+3], g.Heads[:len(g.Heads)+3], g.Fields[:len(g.Fields)+3]
	return g
}

// A lot that is the same at each run.
func lot(seed int64) *rand.Rand { return rand.New(rand.NewSource(seed)) }

func edge(from, to int) api.Edge { return api.Edge{From: from, To: to} }

// links are edges that skip, of pairs of points.
func links(points ...int) []api.Edge {
	var l []api.Edge
	for i := 0; i+1 < len(points); i += 2 {
		l = append(l, edge(points[i], points[i+1]))
	}
	return l
}

// act is the action of a Text.
func act(t *testing.T, text string) api.Action {
	t.Helper()
	a, err := action.Parse(text)
	if err != api.OK {
		t.Fatalf("%q is no action: %v", text, err)
	}
	return a
}
