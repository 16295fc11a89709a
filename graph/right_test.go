package graph_test

import (
	"math"
	"slices"
	"testing"

	"umbral/action"
	"umbral/api"
	"umbral/graph"
)

// needs is an action's Text, and the least that a graph must have for it.
type needs struct {
	text                        string
	vars, ints, fields, structs int
}

// P12.2: what each kind of action needs.
func kinds() []needs {
	return []needs{
		{"skip @0", 0, 0, 0, 0},
		{"skip @65536", 0, 0, 0, 0},
		{"null p0 @1", 1, 0, 0, 0},
		{"null p23 @1", 24, 0, 0, 0},
		{"copy p3 p5 @1", 6, 0, 0, 0},
		{"copy p5 p3 @1", 6, 0, 0, 0},
		{"load p3 p5 f2 @1", 6, 0, 3, 0},
		{"load p5 p3 f7 @1", 6, 0, 8, 0},
		{"cut p4 f0 @1", 5, 0, 1, 0},
		{"cut p0 f7 @1", 1, 0, 8, 0},
		{"link p4 f0 p6 @1", 7, 0, 1, 0},
		{"link p6 f3 p4 @1", 7, 0, 4, 0},
		{"new p2 s0 @1", 3, 0, 0, 1},
		{"new p2 s7 @1", 3, 0, 0, 8},
		{"free p9 @1", 10, 0, 0, 0},
		{"same p3 p5 yes @1", 6, 0, 0, 0},
		{"same p5 p3 no @1", 6, 0, 0, 0},
		{"same null p5 yes @1", 6, 0, 0, 0},
		{"same p5 null yes @1", 6, 0, 0, 0},
		{"same null null no @1", 0, 0, 0, 0},
		{"pick yes @1", 0, 0, 0, 0},
		{"pick no @1", 0, 0, 0, 0},
		{"take i0 @1", 0, 1, 0, 0},
		{"take i23 @1", 0, 24, 0, 0},
		{"put i0 7 @1", 0, 1, 0, 0},
		{"put i5 i3 @1", 0, 6, 0, 0},
		{"put i3 i5 @1", 0, 6, 0, 0},
		{"put i3 i3 + i5 @1", 0, 6, 0, 0},
		{"put i3 7 - i5 @1", 0, 6, 0, 0},
		{"put i3 i5 + i4 @1", 0, 6, 0, 0},
		{"put i5 i4 - 999999999 @1", 0, 6, 0, 0},
		{"put i5 0 + 0 @1", 0, 6, 0, 0},
		{"test i3 < i5 yes @1", 0, 6, 0, 0},
		{"test i5 == i3 no @1", 0, 6, 0, 0},
		{"test i5 == 999999999 no @1", 0, 6, 0, 0},
		{"test 999999999 < i5 no @1", 0, 6, 0, 0},
		{"test 7 < 8 no @1", 0, 0, 0, 0},
	}
}

// having is a graph with just so many of each.
func having(vars, ints, fields, structs int) api.Graph {
	return api.Graph{Points: 2, End: 1, Vars: vars, Ints: ints, Fields: make([]api.Field, fields), Structs: structs}
}

func holdHas(t *testing.T, want bool, g api.Graph, a api.Action) {
	t.Helper()
	if got := graph.Has(g, a); got != want {
		t.Errorf("Has(%s, %+v): %v", short(g), a, got)
	}
}

// Just what is needed is enough, and one less of anything that is needed is not.
func TestHas(t *testing.T) {
	for _, n := range kinds() {
		a := act(t, n.text)
		holdHas(t, true, having(n.vars, n.ints, n.fields, n.structs), a)
		holdHas(t, true, having(24, 24, 8, 8), a)
		holdHas(t, n.vars == 0, having(n.vars-1, 24, 8, 8), a)
		holdHas(t, n.ints == 0, having(24, n.ints-1, 8, 8), a)
		holdHas(t, n.fields == 0, having(24, 24, max(n.fields-1, 0), 8), a)
		holdHas(t, n.structs == 0, having(24, 24, 8, n.structs-1), a)
		for _, few := range []int{0, -1, -2, math.MinInt} {
			holdHas(t, n.vars == 0, having(few, 24, 8, 8), a)
			holdHas(t, n.ints == 0, having(24, few, 8, 8), a)
			holdHas(t, n.structs == 0, having(24, 24, 8, few), a)
			holdHas(t, n.vars+n.ints+n.fields+n.structs == 0, having(few, few, 0, few), a)
		}
		for _, many := range []int{25, 1 << 32, math.MaxInt} {
			holdHas(t, true, having(many, many, 300, many), a)
		}
	}
}

// Has looks at nothing of the graph but what it has of variables, fields and structs.
func TestHasOfOtherGraphs(t *testing.T) {
	for _, n := range kinds() {
		a := act(t, n.text)
		g := having(n.vars, n.ints, n.fields, n.structs)
		for i := range g.Fields {
			g.Fields[i] = api.Field{Owner: -7, Target: math.MaxInt}
		}
		g.Points, g.Start, g.End, g.EndAt, g.Heads, g.Edges = -1, 9, -9, -3, []int{4, 4, -1}, links(7, 8, -1, 3)
		before := copied(g)
		holdHas(t, true, g, a)
		holdHas(t, true, g, a)
		if graph.Text(g) != graph.Text(before) || !slices.Equal(g.Fields, before.Fields) || !slices.Equal(g.Heads, before.Heads) {
			t.Errorf("Has of %q has changed the graph", n.text)
		}
	}
}

func TestHasOfWhatIsNotRight(t *testing.T) {
	g := having(math.MaxInt, math.MaxInt, 300, math.MaxInt)
	for _, a := range []api.Action{
		{Kind: -1}, {Kind: 13}, {Kind: math.MinInt}, {Kind: math.MaxInt}, {At: -1}, {At: 65537}, {X: 1}, {Sense: true},
		{Kind: api.DoNull, X: 24}, {Kind: api.DoNull, X: -1}, {Kind: api.DoFree, X: 24}, {Kind: api.DoCopy, Y: 24}, {Kind: api.DoCopy, Y: -1},
		{Kind: api.DoLoad, F: 8}, {Kind: api.DoLoad, F: -1}, {Kind: api.DoCut, F: 8}, {Kind: api.DoLink, F: 8}, {Kind: api.DoNew, T: 8}, {Kind: api.DoNew, T: -1},
		{Kind: api.DoSame, X: 24}, {Kind: api.DoSame, Y: -2}, {Kind: api.DoTake, X: 24}, {Kind: api.DoTake, X: -1}, {Kind: api.DoTake, Y: 1},
		{Kind: api.DoPut, X: 24}, {Kind: api.DoPut, Op: 3}, {Kind: api.DoPut, R: api.Operand{Var: 1}}, {Kind: api.DoTest, Op: 2}, {Kind: api.DoTest, L: api.Operand{Var: 24}}, {Kind: api.DoTest, L: api.Operand{Var: -2}}, {Kind: api.DoTest, L: api.Operand{Var: -1, N: -1}},
	} {
		holdHas(t, false, g, a)
		holdHas(t, false, api.Graph{}, a)
	}
}

// All numbers that each kind may have, against graphs with few and with many of all.
func TestHasOfAll(t *testing.T) {
	numbers := []int{-2, -1, 0, 1, 2, 7, 8, 23, 24}
	for kind := -1; kind < 14; kind++ {
		for _, x := range numbers {
			for _, y := range numbers {
				for _, n := range []int{math.MinInt, -1, 0, 1, 2, 3, 8, 9, 23, 24, 25} {
					for _, a := range []api.Action{
						{Kind: kind, X: x}, {Kind: kind, X: x, Y: y}, {Kind: kind, X: x, F: y}, {Kind: kind, X: x, T: y}, {Kind: kind, X: 1, Y: x, F: y}, {Kind: kind, X: x, L: api.Operand{Var: y}},
						{Kind: kind, Op: 1, L: api.Operand{Var: x}, R: api.Operand{Var: y}}, {Kind: kind, X: 1, Op: 1, L: api.Operand{Var: -1, N: 5}, R: api.Operand{Var: y}}, {Kind: kind, X: x, Op: 1, R: api.Operand{Var: -1, N: y}},
					} {
						for _, g := range []api.Graph{having(n, 24, 8, 8), having(24, n, 8, 8), having(24, 24, within8(n), 8), having(24, 24, 8, n), having(n, n, 1, n)} {
							holdHas(t, hasOf(g, a), g, a)
						}
					}
				}
			}
		}
	}
}

func within8(n int) int { return min(max(n, 0), 8) }

// tour is a Right graph with some of all: a loop whose Head is 1, within it a choice, and points to which Start does not come.
func tour(t *testing.T) api.Graph {
	t.Helper()
	return api.Graph{
		Points: 9, Start: 0, End: 5, EndAt: 40, Vars: 3, Ints: 2, Structs: 2,
		Fields: []api.Field{{Owner: 0, Target: 1}, {Owner: 1, Target: 1}},
		Heads:  []int{1, 7},
		Edges: []api.Edge{
			{From: 0, To: 1, Act: act(t, "new p2 s1 @3")},
			{From: 1, To: 2, Act: act(t, "test i0 < 5 yes @4")},
			{From: 2, To: 3, Act: act(t, "same p1 null yes @5")},
			{From: 1, To: 4, Act: act(t, "test i0 < 5 no @4")},
			{From: 2, To: 1, Act: act(t, "same p1 null no @5")},
			{From: 3, To: 1, Act: act(t, "link p0 f1 p2 @6")},
			{From: 4, To: 5, Act: act(t, "skip @7")},
			{From: 6, To: 7, Act: act(t, "pick yes @8")},
			{From: 7, To: 6, Act: act(t, "free p1 @8")},
			{From: 6, To: 0, Act: act(t, "put i1 i0 + 1 @8")},
			{From: 6, To: 5, Act: act(t, "take i1 @8")},
		},
	}
}

func wantRight(t *testing.T, what string, want bool, g api.Graph) {
	t.Helper()
	if got := graph.Right(g); got != want {
		t.Errorf("%s: Right is %v of %s", what, got, short(g))
	}
	holdAll(t, g)
}

func TestRight(t *testing.T) {
	wantRight(t, "a tour", true, tour(t))
	wantRight(t, "one point", true, api.Graph{Points: 1})
	wantRight(t, "two points, no way", false, api.Graph{Points: 2, End: 1})
	wantRight(t, "Start is End, a point besides", true, api.Graph{Points: 2, Start: 1, End: 1})
	wantRight(t, "nothing", false, api.Graph{})
	wantRight(t, "End is not come to", true, api.Graph{Points: 2, Start: 0, End: 1, Heads: []int{0}, Edges: links(0, 0)})
}

// numbers are some of a graph's numbers with the least and the greatest that may be.
func TestRightOfNumbers(t *testing.T) {
	for name, n := range map[string]struct {
		of          func(*api.Graph) *int
		least, most int
	}{
		"EndAt":   {func(g *api.Graph) *int { return &g.EndAt }, 0, 65536},
		"Vars":    {func(g *api.Graph) *int { return &g.Vars }, 0, 24},
		"Ints":    {func(g *api.Graph) *int { return &g.Ints }, 0, 24},
		"Structs": {func(g *api.Graph) *int { return &g.Structs }, 0, 8},
		"Points":  {func(g *api.Graph) *int { return &g.Points }, 1, 2000},
		"Start":   {func(g *api.Graph) *int { return &g.Start }, 0, 0},
		"End":     {func(g *api.Graph) *int { return &g.End }, 0, 0},
	} {
		for _, v := range []int{math.MinInt, -2, -1, 0, 1, 2, 8, 9, 24, 25, 1999, 2000, 2001, 65535, 65536, 65537, 1 << 32, math.MaxInt} {
			g := api.Graph{Points: 1}
			*n.of(&g) = v
			wantRight(t, name, within(v, n.least, n.most), g)
		}
	}
	for point := -2; point < 7; point++ {
		wantRight(t, "Start is End", within(point, 0, 4), api.Graph{Points: 5, Start: point, End: point})
		wantRight(t, "End", point == 4, api.Graph{Points: 5, End: point, Edges: links(0, 1, 1, 2, 2, 3, 3, 4)})
		wantRight(t, "Start", within(point, 0, 4), api.Graph{Points: 5, Start: point, End: 4, Edges: links(0, 1, 1, 2, 2, 3, 3, 4)})
	}
}

func TestRightOfFields(t *testing.T) {
	for count := range 12 {
		wantRight(t, "Fields", count <= 8, api.Graph{Points: 1, Structs: 1, Fields: make([]api.Field, count)})
		wantRight(t, "Fields without structs", count == 0, api.Graph{Points: 1, Fields: make([]api.Field, count)})
	}
	for structs := -1; structs < 10; structs++ {
		for _, n := range []int{math.MinInt, -1, 0, 1, structs - 1, structs, structs + 1, 7, 8, math.MaxInt} {
			want := within(structs, 0, 8) && within(n, 0, structs-1)
			wantRight(t, "Owner", want, api.Graph{Points: 1, Structs: structs, Fields: []api.Field{{Owner: n}}})
			wantRight(t, "Target", want, api.Graph{Points: 1, Structs: structs, Fields: []api.Field{{Target: n}}})
			wantRight(t, "the last Target", want, api.Graph{Points: 1, Structs: structs, Fields: []api.Field{{}, {}, {Target: n}}})
			wantRight(t, "Owner in the midst", want, api.Graph{Points: 1, Structs: structs, Fields: []api.Field{{}, {Owner: n}, {}}})
		}
	}
	if graph.Right(api.Graph{Points: 1, Structs: 1, Fields: make([]api.Field, 1<<20)}) {
		t.Error("many Fields are Right")
	}
}

func TestRightOfHeads(t *testing.T) {
	for _, h := range []struct {
		heads []int
		want  bool
	}{
		{nil, true}, {[]int{}, true}, {[]int{0}, true}, {[]int{3}, true}, {[]int{0, 1, 2, 3}, true}, {[]int{0, 3}, true},
		{[]int{-1}, false}, {[]int{4}, false}, {[]int{math.MinInt}, false}, {[]int{math.MaxInt}, false},
		{[]int{-1, 0}, false}, {[]int{0, 4}, false}, {[]int{0, math.MaxInt}, false}, {[]int{math.MinInt, 1}, false},
		{[]int{0, 0}, false}, {[]int{3, 3}, false}, {[]int{1, 0}, false}, {[]int{0, 2, 1}, false}, {[]int{0, 2, 2}, false}, {[]int{1, 2, 3, 0}, false}, {[]int{0, -1}, false},
		{[]int{0, 1, 2, 3, 4}, false}, {[]int{0, 1, 2, 3, 3}, false},
	} {
		wantRight(t, "Heads", h.want, api.Graph{Points: 4, Heads: h.heads})
	}
	all := make([]int, 2000)
	for i := range all {
		all[i] = i
	}
	wantRight(t, "all points are Heads", true, api.Graph{Points: 2000, Heads: all})
	wantRight(t, "one Head too many", false, api.Graph{Points: 1999, Heads: all})
}

// 4000 edges may be: two from each point but the last ones, and more from one to which Start does not come.
func TestRightOfManyEdges(t *testing.T) {
	g := api.Graph{Points: 2000, Start: 0, End: 1999}
	for point := range 1998 {
		g.Edges = append(g.Edges, api.Edge{From: point, To: point + 1, Act: act(t, "pick yes @1")}, api.Edge{From: point, To: 1999, Act: act(t, "pick no @1")})
	}
	g.Edges[2*1997].To = 1999
	for len(g.Edges) < 4003 {
		if got := graph.Right(g); got != (len(g.Edges) <= 4000) {
			t.Errorf("Right of %d edges: %v", len(g.Edges), got)
		}
		g.Edges = append(g.Edges, edge(1998, 1999))
	}
}

// A change of a tour, and whether it is Right then.
type change struct {
	what   string
	want   bool
	change func(g *api.Graph)
}

func changes(t *testing.T) []change {
	skip, yes, no := act(t, "skip @7"), act(t, "pick yes @7"), act(t, "pick no @7")
	set := func(i int, a api.Action) func(*api.Graph) { return func(g *api.Graph) { g.Edges[i].Act = a } }
	more := func(of ...api.Edge) func(*api.Graph) {
		return func(g *api.Graph) { g.Edges = append(g.Edges, of...) }
	}
	instead := func(i int, of ...api.Edge) func(*api.Graph) {
		return func(g *api.Graph) { g.Edges = slices.Replace(g.Edges, i, i+1, of...) }
	}
	return []change{
		{"an edge from no point", false, more(edge(9, 5))},
		{"an edge from below 0", false, more(edge(-1, 5))},
		{"an edge to no point", false, more(edge(8, 9))},
		{"an edge to below 0", false, more(edge(8, -1))},
		{"an edge more where Start does not come to", true, more(edge(8, 0))},
		{"an action with a variable that is not there", false, set(6, act(t, "null p3 @7"))},
		{"an action with one that is there", true, set(6, act(t, "null p2 @7"))},
		{"an action with a number that is not there", false, set(6, act(t, "take i2 @7"))},
		{"an action with a field that is not there", false, set(6, act(t, "cut p0 f2 @7"))},
		{"an action with a struct that is not there", false, set(6, act(t, "new p0 s2 @7"))},
		{"an action that is not Right", false, set(6, api.Action{At: -1})},
		{"such an action where Start does not come to", false, set(8, api.Action{At: -1})},
		{"a struct that is not there where Start does not come to", false, set(8, act(t, "new p0 s2 @7"))},
		{"an edge from End", false, more(edge(5, 8))},
		{"a Branch from End", false, more(api.Edge{From: 5, To: 8, Act: yes}, api.Edge{From: 5, To: 8, Act: no})},
		{"no edge", false, instead(6)},
		{"one Branch", false, set(6, yes)},
		{"another one Branch", false, set(6, no)},
		{"two edges that are no Branches", false, instead(6, edge(4, 5), edge(4, 5))},
		{"a Branch, and one that is none", false, instead(6, api.Edge{From: 4, To: 5, Act: yes}, edge(4, 5))},
		{"one that is no Branch, and a Branch", false, instead(6, edge(4, 5), api.Edge{From: 4, To: 5, Act: yes})},
		{"two Branches", true, instead(6, api.Edge{From: 4, To: 5, Act: yes}, api.Edge{From: 4, To: 5, Act: no})},
		{"two Branches the other way round", true, instead(6, api.Edge{From: 4, To: 5, Act: no}, api.Edge{From: 4, To: 8, Act: yes}, edge(8, 5))},
		{"two Branches that are alike", false, instead(6, api.Edge{From: 4, To: 5, Act: yes}, api.Edge{From: 4, To: 5, Act: yes})},
		{"two Branches at other places", false, instead(6, api.Edge{From: 4, To: 5, Act: yes}, api.Edge{From: 4, To: 5, Act: act(t, "pick no @8")})},
		{"two Branches of other kinds", false, instead(6, api.Edge{From: 4, To: 5, Act: yes}, api.Edge{From: 4, To: 5, Act: act(t, "same p0 null no @7")})},
		{"two Branches of other variables", false, instead(6, api.Edge{From: 4, To: 5, Act: act(t, "same p0 p1 yes @7")}, api.Edge{From: 4, To: 5, Act: act(t, "same p1 p0 no @7")})},
		{"two Branches of other numbers", false, instead(6, api.Edge{From: 4, To: 5, Act: act(t, "test i0 < 7 yes @7")}, api.Edge{From: 4, To: 5, Act: act(t, "test i0 < 8 no @7")})},
		{"two Branches of other Ops", false, instead(6, api.Edge{From: 4, To: 5, Act: act(t, "test i0 < 7 yes @7")}, api.Edge{From: 4, To: 5, Act: act(t, "test i0 == 7 no @7")})},
		{"three edges", false, instead(6, edge(4, 5), edge(4, 5), edge(4, 5))},
		{"three Branches", false, instead(6, api.Edge{From: 4, To: 5, Act: yes}, api.Edge{From: 4, To: 5, Act: no}, api.Edge{From: 4, To: 5, Act: yes})},
		{"two Branches and one that is none", false, instead(6, api.Edge{From: 4, To: 5, Act: yes}, api.Edge{From: 4, To: 5, Act: no}, edge(4, 5))},
		{"one Branch where Start does not come to", true, more(api.Edge{From: 8, To: 5, Act: yes})},
		{"three edges where Start does not come to", true, more(edge(8, 5), edge(8, 5), api.Edge{From: 8, To: 5, Act: yes})},
		{"two Branches that are alike where Start does not come to", true, more(api.Edge{From: 8, To: 5, Act: yes}, api.Edge{From: 8, To: 5, Act: yes})},
		{"the same where Start does come to", false, func(g *api.Graph) {
			g.Edges[6].To = 8
			g.Edges = append(g.Edges, api.Edge{From: 8, To: 5, Act: yes}, api.Edge{From: 8, To: 5, Act: yes})
		}},
		{"no edge where Start does come to", false, func(g *api.Graph) { g.Edges[6].To = 8 }},
		{"Start leads nowhere", false, func(g *api.Graph) { g.Start = 8 }},
		{"Start is End", true, func(g *api.Graph) { g.Start = 5 }},
		{"Start in the midst", true, func(g *api.Graph) { g.Start = 3 }},
		{"Start where there are three edges", false, func(g *api.Graph) { g.Start = 6 }},
		{"another End", false, func(g *api.Graph) { g.End = 8 }},
		{"an edge to itself", false, instead(6, edge(4, 4))},
		{"an edge to itself where Start does not come to", false, more(edge(8, 8))},
		{"an edge to itself, a Head", true, func(g *api.Graph) {
			g.Heads = append(g.Heads, 8)
			g.Edges = append(g.Edges, edge(8, 8))
		}},
		{"no Heads", false, func(g *api.Graph) { g.Heads = nil }},
		{"a circle without a Head", false, func(g *api.Graph) { g.Heads = []int{7} }},
		{"a circle without a Head where Start does not come to", false, func(g *api.Graph) { g.Heads = []int{1} }},
		{"other Heads", false, func(g *api.Graph) { g.Heads = []int{3, 7} }},
		{"other Heads that cut all", true, func(g *api.Graph) { g.Heads = []int{2, 6} }},
		{"more Heads", true, func(g *api.Graph) { g.Heads = []int{0, 1, 2, 3, 4, 5, 6, 7, 8} }},
		{"Heads that fall", false, func(g *api.Graph) { g.Heads = []int{7, 1} }},
		{"Heads that are alike", false, func(g *api.Graph) { g.Heads = []int{1, 7, 7} }},
		{"a Head that is no point", false, func(g *api.Graph) { g.Heads = []int{1, 7, 9} }},
		{"a Head below 0", false, func(g *api.Graph) { g.Heads = []int{-1, 1, 7} }},
		{"fewer points", false, func(g *api.Graph) { g.Points = 7 }},
		{"points just enough", true, func(g *api.Graph) { g.Points = 8 }},
		{"many points", true, func(g *api.Graph) { g.Points = 2000 }},
		{"too many points", false, func(g *api.Graph) { g.Points = 2001 }},
		{"fewer variables", false, func(g *api.Graph) { g.Vars = 2 }},
		{"more variables", true, func(g *api.Graph) { g.Vars = 24 }},
		{"too many variables", false, func(g *api.Graph) { g.Vars = 25 }},
		{"fewer numbers", false, func(g *api.Graph) { g.Ints = 1 }},
		{"more numbers", true, func(g *api.Graph) { g.Ints = 24 }},
		{"too many numbers", false, func(g *api.Graph) { g.Ints = 25 }},
		{"fewer structs", false, func(g *api.Graph) { g.Structs = 1 }},
		{"more structs", true, func(g *api.Graph) { g.Structs = 8 }},
		{"too many structs", false, func(g *api.Graph) { g.Structs = 9 }},
		{"fewer fields", false, func(g *api.Graph) { g.Fields = g.Fields[:1] }},
		{"EndAt below 0", false, func(g *api.Graph) { g.EndAt = -1 }},
		{"EndAt 65536", true, func(g *api.Graph) { g.EndAt = 65536 }},
		{"EndAt 65537", false, func(g *api.Graph) { g.EndAt = 65537 }},
		{"EndAt 0", true, func(g *api.Graph) { g.EndAt = 0 }},
		{"another action", true, set(6, skip)},
	}
}

// Each condition broken by itself.
func TestRightOfChanges(t *testing.T) {
	for _, c := range changes(t) {
		g := tour(t)
		c.change(&g)
		wantRight(t, c.what, c.want, g)
	}
}

// Each kind of action may lead on; a Branch alone may not.
func TestRightOfKinds(t *testing.T) {
	for _, n := range kinds() {
		a := act(t, n.text)
		branch := branchOf(a)
		g := having(24, 24, 8, 8)
		g.Edges = []api.Edge{{From: 0, To: 1, Act: a}}
		wantRight(t, n.text, !branch, g)
		g.Edges = append(g.Edges, api.Edge{From: 0, To: 1, Act: notOf(a)})
		wantRight(t, n.text+" and its Not", branch, g)
		g.Edges[0], g.Edges[1] = g.Edges[1], g.Edges[0]
		wantRight(t, n.text+" behind its Not", branch, g)
		g.Edges[1] = g.Edges[0]
		wantRight(t, n.text+" twice", false, g)
		if action.Branch(a) != branch {
			t.Errorf("Branch(%q): %v", n.text, !branch)
		}
	}
}
