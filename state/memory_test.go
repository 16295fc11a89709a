package state_test

import (
	"reflect"
	"slices"
	"testing"

	"umbral/api"
	"umbral/state"
)

// twin is of its own memory, as x is in all, the spare room of its lists too.
func twin[T any](x T) T {
	var y T
	twinTo(reflect.ValueOf(&y).Elem(), reflect.ValueOf(&x).Elem())
	return y
}

func twinTo(to, from reflect.Value) {
	switch from.Kind() {
	case reflect.Struct:
		for i := range from.NumField() {
			twinTo(to.Field(i), from.Field(i))
		}
	case reflect.Slice:
		if from.IsNil() {
			return
		}
		room := from.Slice(0, from.Cap())
		to.Set(reflect.MakeSlice(from.Type(), room.Len(), room.Len()))
		for i := range room.Len() {
			twinTo(to.Index(i), room.Index(i))
		}
		to.Set(to.Slice(0, from.Len()))
	default:
		to.Set(from)
	}
}

// untouched tells whether a and b are alike, the spare room of their lists too.
func untouched(a, b reflect.Value) bool {
	switch a.Kind() {
	case reflect.Struct:
		for i := range a.NumField() {
			if !untouched(a.Field(i), b.Field(i)) {
				return false
			}
		}
		return true
	case reflect.Slice:
		if a.Len() != b.Len() || a.Cap() != b.Cap() {
			return false
		}
		for i := range a.Cap() {
			if !untouched(a.Slice(0, a.Cap()).Index(i), b.Slice(0, b.Cap()).Index(i)) {
				return false
			}
		}
		return true
	}
	return a.Interface() == b.Interface()
}

// roomy is x with something in the room behind the ends of all its lists.
func roomy[T any](x T) T {
	x = twin(x)
	roomTo(reflect.ValueOf(&x).Elem())
	return x
}

func roomTo(v reflect.Value) {
	switch v.Kind() {
	case reflect.Struct:
		for i := range v.NumField() {
			roomTo(v.Field(i))
		}
	case reflect.Slice:
		for i := range v.Len() {
			roomTo(v.Index(i))
		}
		more := reflect.New(v.Type().Elem()).Elem()
		if v.Len() > 0 {
			more.Set(v.Index(v.Len() - 1))
		}
		v.Set(reflect.Append(reflect.Append(v, more), more).Slice(0, v.Len()))
	}
}

// scribble writes over all of a state's lists, and over their spare room.
func scribble(s api.State) {
	fill := func(list []int) {
		list = list[:cap(list)]
		for i := range list {
			list[i] = -7
		}
	}
	fill(s.Vars)
	fill(s.Ints)
	for _, c := range s.Cells {
		fill(c.To)
	}
	cells := s.Cells[:cap(s.Cells)]
	for i := range cells {
		cells[i] = api.Cell{Type: -7, Freed: true, To: []int{-7}}
	}
}

// small is a graph, and state one of its states.
var small = api.Graph{Points: 4, Start: 2, Vars: 3, Ints: 2, Structs: 2, Fields: []api.Field{{Owner: 0, Target: 1}, {Owner: 1, Target: 0}}}

func middle() api.State {
	return api.State{Point: 3, Vars: []int{1, 0, 3}, Ints: []int{5, -6}, Cells: []api.Cell{{Type: 0, To: []int{2, 0}}, {Type: 1, To: []int{0, 1}}, {Type: 1, Freed: true, To: []int{0, 0}}, {Type: 0, To: []int{3, 4}}}}
}

// deeds are actions of each kind, of the small graph.
func deeds() []api.Action {
	return []api.Action{
		{Kind: api.DoSkip},
		{Kind: api.DoNull, X: 0},
		{Kind: api.DoCopy, X: 1, Y: 0},
		{Kind: api.DoLoad, X: 1, Y: 0, F: 0},
		{Kind: api.DoLoad, X: 1, Y: 2, F: 0},
		{Kind: api.DoCut, X: 0, F: 0},
		{Kind: api.DoCut, X: 1, F: 0},
		{Kind: api.DoLink, X: 0, Y: 2, F: 1},
		{Kind: api.DoLink, X: 2, Y: 0, F: 1},
		{Kind: api.DoNew, X: 0, T: 1},
		{Kind: api.DoFree, X: 0},
		{Kind: api.DoFree, X: 2},
		{Kind: api.DoSame, X: 0, Y: 1, Sense: true},
		{Kind: api.DoPick},
		{Kind: api.DoTake, X: 1},
		{Kind: api.DoPut, X: 0, Op: 1, L: api.Operand{Var: 1}, R: api.Operand{Var: -1, N: 8}},
		{Kind: api.DoTest, L: api.Operand{Var: 0}, R: api.Operand{Var: 1}},
		{Kind: api.DoNull, X: 3},
		{Kind: 77},
	}
}

// R3: what is handed in is not changed, nor what lies behind its lists' ends, which is not looked at.
func TestNothingHandedInIsChanged(t *testing.T) {
	for _, s := range append(broken(middle()), middle(), state.Begin(small)) {
		g, s, other := roomy(small), roomy(s), roomy(s)
		gBefore, sBefore, otherBefore := twin(g), twin(s), twin(other)
		for i, a := range deeds() {
			hold(t, g, s, a, i%2)
		}
		state.Begin(g)
		if !state.Same(s, other) {
			t.Errorf("%v is not the same as itself", s)
		}
		if !untouched(reflect.ValueOf(g), reflect.ValueOf(gBefore)) || !untouched(reflect.ValueOf(s), reflect.ValueOf(sBefore)) || !untouched(reflect.ValueOf(other), reflect.ValueOf(otherBefore)) {
			t.Fatalf("%v: what is handed in is changed: %v, %v", sBefore, g, s)
		}
	}
}

// R3: what is answered is of its own memory: each may be written over without the other ones' knowing. So it is where nothing is done.
func TestAnswersAreNew(t *testing.T) {
	wrong := middle()
	wrong.Cells[1].To[0] = 9
	for _, from := range []api.State{middle(), wrong} {
		for i, a := range deeds() {
			g, s := roomy(small), roomy(from)
			want, wantEvent := modelDo(small, from, a, i%2)
			first, event := state.Do(g, s, a, i%2)
			again, _ := state.Do(g, s, a, i%2)
			scribble(first)
			if !alike(s, from) || !alike(again, want) || event != wantEvent {
				t.Errorf("%v: answers share memory: %v, %v, want %v", a, s, again, want)
			}
			scribble(s)
			clear(g.Fields)
			if !alike(again, want) {
				t.Errorf("%v: what is handed in is kept: %v, want %v", a, again, want)
			}
		}
	}
}

// lists tells all lists of numbers of a state.
func lists(s *api.State) []*[]int {
	all := []*[]int{&s.Vars, &s.Ints}
	for i := range s.Cells {
		all = append(all, &s.Cells[i].To)
	}
	return all
}

// R3: no two lists of an answer share memory, nor spare room.
func TestListsOfAnAnswerShareNothing(t *testing.T) {
	wrong := middle()
	wrong.Point = 4
	for _, from := range []api.State{middle(), wrong} {
		for i, a := range deeds() {
			wantOwnLists(t, from, a, i%2)
		}
	}
	b := state.Begin(api.Graph{Vars: 3, Ints: 4})
	for _, list := range lists(&b) {
		all := (*list)[:cap(*list)]
		for k := range all {
			all[k]++
		}
		*list = append(*list, 1)
	}
	if !slices.Equal(b.Vars, []int{1, 1, 1, 1}) || !slices.Equal(b.Ints, []int{1, 1, 1, 1, 1}) {
		t.Errorf("lists of Begin share memory: %v", b)
	}
}

// wantOwnLists holds that each list of what Do tells of a state can be written over, and made longer, without another one's knowing.
func wantOwnLists(t *testing.T, from api.State, a api.Action, in int) {
	t.Helper()
	want, _ := modelDo(small, from, a, in)
	for j := range lists(&want) {
		s, _ := state.Do(small, from, a, in)
		list := lists(&s)[j]
		all := (*list)[:cap(*list)]
		for k := range all {
			all[k] = -7
		}
		*list = append(*list, -8)
		*list = slices.Clone(*lists(&want)[j])
		if !alike(s, want) {
			t.Errorf("%v: list %d is of the memory of another one: %v, want %v", a, j, s, want)
		}
	}
}

// R3, R4: Begin and Leaks answer new memory, and the same again.
func TestAskedAgain(t *testing.T) {
	for range 5 {
		b := state.Begin(small)
		if want := (api.State{Point: 2, Vars: make([]int, 3), Ints: make([]int, 2)}); !alike(b, want) {
			t.Fatalf("Begin: %v, want %v", b, want)
		}
		scribble(b)
		leaks := state.Leaks(small, middle())
		if !slices.Equal(leaks, []int{4}) {
			t.Fatalf("Leaks: %v", leaks)
		}
		leaks = leaks[:cap(leaks)]
		for i := range leaks {
			leaks[i] = -7
		}
		for i, a := range deeds() {
			hold(t, small, middle(), a, i%2)
		}
	}
}
