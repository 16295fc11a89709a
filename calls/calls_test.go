package calls_test

import (
	"math"
	"strconv"
	"strings"
	"testing"

	"umbral/api"
	"umbral/parse"
)

func call(name string) api.Stmt { return api.Stmt{Kind: api.Call, Name: name} }

// body makes a list that calls these, one by one.
func body(names ...string) []api.Stmt {
	var l []api.Stmt
	for _, name := range names {
		l = append(l, call(name))
	}
	return l
}

// program makes procedures of texts: a name, and whom it calls, as in "a: b c". That of number i stands at 100 + i, and ends at 200 + i.
func program(texts ...string) api.Program {
	var p api.Program
	for i, text := range texts {
		name, names, _ := strings.Cut(text, ":")
		p.Procs = append(p.Procs, api.Proc{Name: name, At: 100 + i, End: 200 + i, Body: body(strings.Fields(names)...)})
	}
	return p
}

func read(t *testing.T, text string) api.Program {
	t.Helper()
	p, at, err := parse.Program(text)
	if err != api.OK {
		t.Fatalf("%s: %v at %d", text, err, at)
	}
	return p
}

func TestExample(t *testing.T) {
	p := read(t, "void a() { ; ; } void main() { a(); a(); }")
	holdCost(t, "the example", p, 6)
	holdOrder(t, "the example", p, 0, 1)
	holdReach(t, "the example", p, "main", 0)
	holdReach(t, "the example", p, "a")
	holdCycle(t, "the example", p, 0, api.OK)
}

const ordinary = `struct t { t* n; } t* x; int i;
void put(t* a) { if (a != null) { a->n = x; x = a; } }
void main() { t* a; while (?) { a = new t; grow(a); } drop(); drop(); }
void grow(t* a) { put(a); if (i < 3) { put(null); } else { i = i + 1; note(i); } }
void drop() { t* b; if (x != null) { b = x->n; free(x); x = b; note(0); } }
void note(int k) { i = k; }
void alone() { drop(); }`

func TestOrdinary(t *testing.T) {
	p := read(t, ordinary)
	holdReach(t, "ordinary", p, "put")
	holdReach(t, "ordinary", p, "main", 0, 2, 3, 4)
	holdReach(t, "ordinary", p, "grow", 0, 4)
	holdReach(t, "ordinary", p, "drop", 4)
	holdReach(t, "ordinary", p, "note")
	holdReach(t, "ordinary", p, "alone", 3, 4)
	holdReach(t, "ordinary", p, "mai")
	holdReach(t, "ordinary", p, "x")
	holdReach(t, "ordinary", p, "t")
	holdCycle(t, "ordinary", p, 0, api.OK)
	holdOrder(t, "ordinary", p, 0, 4, 2, 3, 1, 5)
	put, note := 3, 1
	grow, drop := 5+2*put+note, 5+note
	holdCost(t, "ordinary", p, 5+grow+2*drop)
	if holdAll(t, "ordinary", p) {
		t.Error("the ordinary one has a cycle")
	}
}

func TestOrdinaryCycles(t *testing.T) {
	for _, c := range []struct {
		text  string
		first int
	}{
		{"void p() { p(); } void main() { p(); }", 0},
		{"void main() { } void p() { if (?) { q(); } } void q() { while (?) { ; p(); } }", 1},
		{"int i; void top() { main(); } void side() { { { main(); } } } void main() { if (i < 1) { } else { side(); } }", 1},
		{"void top() { side(); main(); } void main() { } void side() { while (?) { side(); } }", 2},
	} {
		p := read(t, c.text)
		holdCycle(t, c.text, p, p.Procs[c.first].At, api.ErrCycle)
		holdOrder(t, c.text, p)
		holdCost(t, c.text, p, 0)
		holdAll(t, c.text, p)
	}
}

func TestNothing(t *testing.T) {
	for _, p := range []api.Program{
		{},
		{Procs: []api.Proc{}},
		{Procs: program("main: main", "a").Procs[:0]},
		{Structs: []api.Struct{{Name: "main"}}, Globals: []api.Decl{{Name: "main"}}},
	} {
		for _, name := range []string{"", "main", "a", "\x00"} {
			holdReach(t, "no procedure", p, name)
		}
		holdCycle(t, "no procedure", p, 0, api.OK)
		holdOrder(t, "no procedure", p)
		holdCost(t, "no procedure", p, 0)
	}
}

// A procedure whose Body has nothing, and one that calls only what there is not.
func TestOneProcedure(t *testing.T) {
	for _, l := range [][]api.Stmt{nil, {}, make([]api.Stmt, 1), make([]api.Stmt, 7), body("none"), body("none", "Main", "main ", "none")} {
		for _, name := range []string{"main", "", "a"} {
			p := api.Program{Procs: []api.Proc{{Name: name, At: 9, End: 12, Body: l}}}
			holdReach(t, "one procedure", p, name)
			holdReach(t, "one procedure", p, "none")
			holdCycle(t, "one procedure", p, 0, api.OK)
			holdOrder(t, "one procedure", p, 0)
			if name == "main" {
				holdCost(t, "one procedure", p, len(l))
			} else {
				holdCost(t, "one procedure that is no main", p, 0)
			}
			p.Procs[0].Body = append(l[:len(l):len(l)], call(name))
			holdReach(t, "one that calls itself", p, name, 0)
			holdCycle(t, "one that calls itself", p, 9, api.ErrCycle)
			holdOrder(t, "one that calls itself", p)
			holdCost(t, "one that calls itself", p, 0)
		}
	}
}

// The empty name is one as all others are.
func TestEmptyName(t *testing.T) {
	p := program("a", "", "main: a")
	p.Procs[2].Body = append(p.Procs[2].Body, call(""), api.Stmt{Kind: api.Skip})
	p.Procs[1].Body = body("a", "a", "none")
	holdReach(t, "an empty name", p, "", 0)
	holdReach(t, "an empty name", p, "main", 0, 1)
	holdCycle(t, "an empty name", p, 0, api.OK)
	holdOrder(t, "an empty name", p, 0, 1, 2)
	holdCost(t, "an empty name", p, 6)
	p.Procs[0].Body = body("")
	holdReach(t, "a ring with an empty name", p, "", 0, 1)
	holdCycle(t, "a ring with an empty name", p, 100, api.ErrCycle)
	p.Procs[0].Body = body("none")
	p.Procs[1].Body = body("")
	holdReach(t, "an empty name that calls itself", p, "", 1)
	holdCycle(t, "an empty name that calls itself", p, 101, api.ErrCycle)
	none := program("a: b", "b", "main: a")
	none.Procs[0].Body = append(none.Procs[0].Body, call(""))
	holdReach(t, "no empty name", none, "")
	holdReach(t, "no empty name", none, "a", 1)
	holdCost(t, "no empty name", none, 3)
}

// Names that no text could have stand for themselves.
func TestNamesThatNoTextHas(t *testing.T) {
	names := []string{"\xff", "\xfe", "while", "Main", "main ", " main", "main\x00", "", "ä", "a\u0308", strings.Repeat("n", 70000), strings.Repeat("n", 69999) + "m"}
	var p api.Program
	for i, name := range names {
		p.Procs = append(p.Procs, api.Proc{Name: name, At: i + 1, Body: body(names[(i+1)%len(names)])})
	}
	var all []int
	for i := range names {
		all = append(all, i)
	}
	for _, name := range names {
		holdReach(t, "a ring of strange names", p, name, all...)
	}
	holdReach(t, "a ring of strange names", p, "main")
	holdCycle(t, "a ring of strange names", p, 1, api.ErrCycle)
	p.Procs[len(names)-1].Body = nil
	for i, name := range names {
		holdReach(t, "a chain of strange names", p, name, all[i+1:]...)
	}
	holdCost(t, "a chain of strange names", p, 0)
	p.Procs = append(p.Procs, api.Proc{Name: "main", Body: body(names...)})
	sum := len(names)
	for i := range names {
		sum += i
	}
	holdCost(t, "many strange names", p, sum)
}

// The first one of a name is meant, in Reach's argument and in each Call; Order and Cycle go over all.
func TestNamesThatAreTwice(t *testing.T) {
	p := program("a: x", "a: y", "x", "y", "main: a", "main: y y y", "a: main")
	holdReach(t, "three of a name", p, "a", 2)
	holdReach(t, "three of a name", p, "main", 0, 2)
	holdReach(t, "three of a name", p, "y")
	holdCycle(t, "three of a name", p, 0, api.OK)
	holdOrder(t, "three of a name", p, 2, 0, 3, 1, 4, 5, 6)
	holdCost(t, "three of a name", p, 2)

	p = program("a", "a: a a", "main: a", "a: a main", "main: main")
	holdReach(t, "one that calls its like", p, "a")
	holdReach(t, "one that calls its like", p, "main", 0)
	holdCycle(t, "one that calls its like", p, 0, api.OK)
	holdOrder(t, "one that calls its like", p, 0, 1, 2, 3, 4)
	holdCost(t, "one that calls its like", p, 1)

	p = program("b: a", "a: b", "a", "main: b")
	holdCycle(t, "a ring through the first one", p, 100, api.ErrCycle)
	p = program("b: a", "a", "a: b", "main: b")
	holdCycle(t, "no ring through the second one", p, 0, api.OK)
	holdReach(t, "no ring through the second one", p, "b", 1)
	holdOrder(t, "no ring through the second one", p, 1, 0, 2, 3)
	p = program("a: main", "main", "a: a", "main: a")
	holdCycle(t, "the second ones lead to the first ones", p, 0, api.OK)
	holdOrder(t, "the second ones lead to the first ones", p, 1, 0, 2, 3)
	p = program("main", "a: a", "a", "main: a")
	holdCycle(t, "a first one that calls itself", p, 101, api.ErrCycle)
	holdReach(t, "a first one that calls itself", p, "a", 1)
	holdReach(t, "a first one that calls itself", p, "main")
	holdCost(t, "a first one that calls itself", p, 0)
}

// within is a program with this list as main's.
func within(l []api.Stmt) api.Program {
	p := program("main", "a: b", "b", "c: d d", "d: a")
	p.Procs[0].Body = l
	return p
}

// Calls count wherever they stand, and whatever the Kind is of what they stand in.
func TestCallsWithinOthers(t *testing.T) {
	for kind := -3; kind < 12; kind++ {
		in := func(then, other []api.Stmt) []api.Stmt {
			return []api.Stmt{{Kind: kind, Name: "none", Then: then, Else: other}}
		}
		what := "within Kind " + strconv.Itoa(kind)
		for _, c := range []struct {
			l    []api.Stmt
			to   []int
			cost int
		}{
			{in(nil, nil), nil, 1},
			{in(body("a"), nil), []int{1, 2}, 3},
			{in(nil, body("a")), []int{1, 2}, 3},
			{in(body("a", "a"), body("b", "a")), []int{1, 2}, 8},
			{in(in(body("b"), nil), in(nil, body("d"))), []int{1, 2, 4}, 7},
			{in(nil, in(in(nil, body("c")), nil)), []int{1, 2, 3, 4}, 10},
		} {
			p := within(c.l)
			holdReach(t, what, p, "main", c.to...)
			holdCost(t, what, p, c.cost)
			holdAll(t, what, p)
			holdAll(t, what+", called", api.Program{Procs: append(program("main: x b b", "b").Procs, api.Proc{Name: "x", At: 7, Body: c.l})})
		}
		ring := within(in(nil, in(in(body("main"), nil), nil)))
		holdReach(t, what+", a ring", ring, "main", 0)
		holdCycle(t, what+", a ring", ring, 100, api.ErrCycle)
		holdOrder(t, what+", a ring", ring)
		holdCost(t, what+", a ring", ring, 0)
	}
}

// A Call may have lists within: what is called there counts too.
func TestCallsWithinCalls(t *testing.T) {
	s := call("c")
	s.Then, s.Else = body("b", "none"), []api.Stmt{{Kind: api.Call, Name: "b", Else: body("a")}}
	p := within([]api.Stmt{s})
	holdReach(t, "Calls within Calls", p, "main", 1, 2, 3, 4)
	holdCost(t, "Calls within Calls", p, 5+6+0+0+1)
	holdAll(t, "Calls within Calls", p)
}

// What is no Call calls nothing, whatever names stand in it.
func TestNoCalls(t *testing.T) {
	path := api.Path{Name: "a", Hops: []api.Hop{{Name: "a"}}}
	value := api.Value{Kind: 3, Path: path, Type: "a", Left: api.Term{Name: "a"}, Right: api.Term{Name: "a"}}
	for kind := -3; kind < 12; kind++ {
		s := api.Stmt{Kind: kind, Name: "a", Place: path, Value: value, Cond: api.Cond{Kind: 3, Left: value, Right: value}, Args: []api.Value{value, value}}
		p := api.Program{
			Structs: []api.Struct{{Name: "a"}},
			Globals: []api.Decl{{Name: "a"}},
			Procs:   []api.Proc{{Name: "main", Params: []api.Decl{{Type: "a", Name: "a"}}, Body: []api.Stmt{s}}, {Name: "a"}},
		}
		what := "names of Kind " + strconv.Itoa(kind)
		if kind == 3 {
			holdReach(t, what, p, "main", 1)
			holdOrder(t, what, p, 1, 0)
		} else {
			holdReach(t, what, p, "main")
			holdOrder(t, what, p, 0, 1)
		}
		holdCost(t, what, p, 1)
		s.Name = "none"
		p.Procs[0].Body = []api.Stmt{s}
		holdReach(t, what+", and a Call of none", p, "main")
		holdOrder(t, what+", and a Call of none", p, 0, 1)
	}
}

// Places and lists of declarations are not looked at; the place of a Cycle is told as it is.
func TestPlaces(t *testing.T) {
	for _, at := range []int{0, -1, 1, 65536, math.MinInt, math.MaxInt} {
		p := program("a: b", "b: b", "main: a")
		p.Procs[1].At = at
		holdCycle(t, "a place", p, at, api.ErrCycle)
		p.Procs[1].Body = nil
		holdCycle(t, "a place of none", p, 0, api.OK)
		p.Procs[1].Body = body("a")
		holdCycle(t, "a ring", p, 100, api.ErrCycle)
		p.Procs[0].At = at
		holdCycle(t, "a ring", p, at, api.ErrCycle)
	}
}
