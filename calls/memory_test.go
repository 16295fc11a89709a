package calls_test

import (
	"reflect"
	"slices"
	"testing"

	"umbral/api"
	"umbral/calls"
)

// twin is of its own memory, as x is in all, the spare room of its lists too.
func twin[T any](x T) T {
	var y T
	twinTo(reflect.ValueOf(&y).Elem(), reflect.ValueOf(&x).Elem())
	return y
}

func twinTo(to, from reflect.Value) {
	switch from.Kind() {
	case reflect.Struct:
		for i := range from.NumField() {
			twinTo(to.Field(i), from.Field(i))
		}
	case reflect.Slice:
		if from.IsNil() {
			return
		}
		room := from.Slice(0, from.Cap())
		to.Set(reflect.MakeSlice(from.Type(), room.Len(), room.Len()))
		for i := range room.Len() {
			twinTo(to.Index(i), room.Index(i))
		}
		to.Set(to.Slice(0, from.Len()))
	default:
		to.Set(from)
	}
}

// untouched tells whether a and b are alike, the spare room of their lists too.
func untouched(a, b any) bool { return alike(reflect.ValueOf(a), reflect.ValueOf(b)) }

func alike(a, b reflect.Value) bool {
	switch a.Kind() {
	case reflect.Struct:
		for i := range a.NumField() {
			if !alike(a.Field(i), b.Field(i)) {
				return false
			}
		}
		return true
	case reflect.Slice:
		if a.Len() != b.Len() || a.Cap() != b.Cap() {
			return false
		}
		for i := range a.Cap() {
			if !alike(a.Slice(0, a.Cap()).Index(i), b.Slice(0, b.Cap()).Index(i)) {
				return false
			}
		}
		return true
	}
	return a.Interface() == b.Interface()
}

// full are programs in which all lists have things in them, and in the room behind their ends.
func full() []api.Program {
	decls := []api.Decl{{Type: "t", Name: "x", At: 1}, {Name: "i", At: 2}, {Name: "spare", At: 3}}[:2]
	value := api.Value{Kind: api.Way, At: 4, Path: api.Path{Name: "x", At: 5, Hops: []api.Hop{{Name: "n"}, {Name: "spare"}}[:1]}}
	inner := []api.Stmt{call("c"), call("b"), call("c"), call("main"), call("main")}
	l := []api.Stmt{
		{Kind: api.Call, Name: "b", Args: []api.Value{value, value, value}[:2]},
		{Kind: api.If, Cond: api.Cond{Left: value, Right: value}, Then: inner[:1], Else: inner[1:3], Both: true},
		{Kind: api.Call, Name: "main"},
		{Kind: api.While, Then: inner},
	}
	procs := func(more string) []api.Proc {
		return []api.Proc{
			{Name: "main", At: 10, End: 20, Params: decls[:0], Locals: decls, Body: l[:2]},
			{Name: "b", At: 30, End: 40, Params: decls, Body: []api.Stmt{call("c"), call("main"), call("d")}[:1]},
			{Name: "c", At: 50, End: 60, Body: []api.Stmt{{}, {}, call("c"), call("main")}[:2]},
			{Name: "d", At: 70, End: 80, Body: body(more, "b")},
			{Name: "c", At: 90, End: 95, Body: body("main", "c")},
			{Name: "main", At: 97},
			{Name: "e", At: 98, Body: body("e")},
		}[:5]
	}
	structs := []api.Struct{{Name: "t", Fields: decls[:1]}, {Name: "spare"}}[:1]
	return []api.Program{
		{Structs: structs, Globals: decls, Procs: procs("main")},
		{Structs: structs, Globals: decls, Procs: procs("d")},
	}
}

func TestNothingIsChanged(t *testing.T) {
	for _, p := range append(full(), api.Program{}, read(t, ordinary), program("a: b", "b: a", "main: a")) {
		before := twin(p)
		for _, name := range []string{"main", "a", "b", "c", "d", "e", "none", ""} {
			calls.Reach(p, name)
		}
		calls.Cycle(p)
		calls.Order(p)
		calls.Cost(p)
		if !untouched(p, before) {
			t.Errorf("%s: it is changed", names(p))
		}
		holdAll(t, names(p), p)
	}
}

// What stands behind a list's end is none of it.
func TestRoomIsNotLookedAt(t *testing.T) {
	p := full()[0]
	holdReach(t, "room", p, "main", 1, 2)
	holdReach(t, "room", p, "b", 2)
	holdReach(t, "room", p, "e")
	holdCycle(t, "room", p, 0, api.OK)
	holdOrder(t, "room", p, 2, 1, 0, 3, 4)
	holdCost(t, "room", p, 5+3+2+3+2)
}

// holdOwn holds that answers of one call share no memory, their spare room neither, and that no other one is changed by who changes them.
func holdOwn(t *testing.T, what string, ask func() []int) {
	t.Helper()
	first, second := ask(), ask()
	want := slices.Clone(second)
	for i := range first[:cap(first)] {
		first[:cap(first)][i] = -77
	}
	if slices.Contains(second[:cap(second)], -77) {
		t.Errorf("%s: two answers share memory", what)
	}
	third := ask()
	if !slices.Equal(second, want) || !slices.Equal(third, want) {
		t.Errorf("%s: %v, then %v, want %v", what, second, third, want)
	}
	if slices.Contains(third[:cap(third)], -77) {
		t.Errorf("%s: an answer stands in memory that was told", what)
	}
	_ = append(second[:0], 5, 6, 7)
	if fourth := ask(); !slices.Equal(fourth, want) || !slices.Equal(third, want) {
		t.Errorf("%s: %v, then %v, want %v", what, third, fourth, want)
	}
}

func TestAnswersAreNew(t *testing.T) {
	all := append(full(), read(t, ordinary), program("a", "main: a b", "b: c", "c: a", "d", "e: d main"), program("a: b", "b: c", "c: a"), program())
	for _, p := range all {
		for _, name := range []string{"main", "a", "b", "d", "e", "none"} {
			holdOwn(t, "Reach of "+name+", "+names(p), func() []int { return calls.Reach(p, name) })
		}
		holdOwn(t, "Order, "+names(p), func() []int { return calls.Order(p) })
		order, reach := calls.Order(p), calls.Reach(p, "main")
		want := slices.Clone(reach)
		clear(order[:cap(order)])
		if !slices.Equal(reach, want) {
			t.Errorf("%s: Order and Reach share memory", names(p))
		}
		holdAll(t, names(p), p)
	}
}

// What is changed in a program behind the calls changes no answer, and nothing of it is kept.
func TestNothingIsKept(t *testing.T) {
	p := program("a", "main: b a", "b: a a")
	reach, order := calls.Reach(p, "main"), calls.Order(p)
	holdCost(t, "at first", p, 6-2)
	p.Procs[0].Body = body("b")
	holdCycle(t, "changed", p, 100, api.ErrCycle)
	holdCost(t, "changed", p, 0)
	p.Procs[2].Body[1].Kind = api.Skip
	p.Procs[2].Body[0].Name = "none"
	holdAll(t, "changed again", p)
	holdOrder(t, "changed again", p, 2, 0, 1)
	p.Procs[2].Name = "main"
	holdAll(t, "with other names", p)
	holdReach(t, "with other names", p, "main", 0)
	clear(p.Procs)
	if !slices.Equal(reach, []int{0, 2}) || !slices.Equal(order, []int{0, 2, 1}) {
		t.Errorf("answers change behind the calls: %v, %v", reach, order)
	}
}

// Asking again gives the same, whatever was asked between.
func TestAskingAgain(t *testing.T) {
	p, ring := read(t, ordinary), program("c: d", "a: b", "b: a", "d: d")
	for range 200 {
		holdReach(t, "again", p, "main", 0, 2, 3, 4)
		holdOrder(t, "again", p, 0, 4, 2, 3, 1, 5)
		holdCycle(t, "again", ring, 101, api.ErrCycle)
		holdReach(t, "again", ring, "c", 3)
		holdCost(t, "again", p, 5+12+2*6)
		holdCycle(t, "again", p, 0, api.OK)
		holdOrder(t, "again", ring)
		holdCost(t, "again", ring, 0)
	}
}
