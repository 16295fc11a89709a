package run_test

import (
	"math"
	"reflect"
	"slices"
	"testing"

	"umbral/api"
	"umbral/graph"
	"umbral/run"
)

// one is a graph with a loop, whose runs do something of each kind, and a script by which all of that is done.
func one(t *testing.T) (api.Graph, []int) {
	g := lowered(t, `struct t { t* n; u* m; } struct u { t* k; } t* x; t* y; u* v; int i; int j;
	void main() {
		i = input; v = new u;
		while (?) { x = new t; if (x != null) { x->n = y; x->m = v; y = x; j = j + i; } }
		while (y != null) { x = y->n; if (j < 7) { v->k = null; } free(y); y = x; j = j - 1; }
		free(v); x = null;
	}`)
	return g, []int{3, 1, 1, 1, 1, 0, 1, 1, 1, 1, 0, 8, 9}
}

// P16.2: the states from the first one to the last one: one more than steps were taken, the last one as Run tells it.
func TestWatch(t *testing.T) {
	g, script := one(t)
	whole := hold(t, g, script, math.MaxInt)
	if whole.Stand != api.Halted || whole.Steps < 60 || len(whole.State.Cells) != 4 {
		t.Fatalf("the run is too short: %+v", whole)
	}
	states := slices.Collect(run.Watch(g, script, math.MaxInt))
	if len(states) != whole.Steps+1 {
		t.Errorf("%d states of %d steps", len(states), whole.Steps)
	}
	for fuel := -2; fuel <= whole.Steps+2; fuel++ {
		r := run.Run(g, script, fuel)
		seen := slices.Collect(run.Watch(g, script, fuel))
		if len(seen) != r.Steps+1 || !alike(seen[r.Steps], r.State) || !slices.EqualFunc(seen, states[:r.Steps+1], alike) {
			t.Errorf("with fuel %d: %d states", fuel, len(seen))
		}
	}
	for inputs := range script {
		r := run.Run(g, script[:inputs], math.MaxInt)
		seen := slices.Collect(run.Watch(g, script[:inputs], math.MaxInt))
		if len(seen) != r.Steps+1 || !slices.EqualFunc(seen, states[:r.Steps+1], alike) {
			t.Errorf("with %d inputs: %d states", inputs, len(seen))
		}
	}
}

// P16.2: by the chapter's words, of short runs that end in each way.
func TestWatchShortRuns(t *testing.T) {
	null, cell, gone := []int{0, 0}, []api.Cell{{To: []int{0, 0}}}, []api.Cell{{Freed: true, To: []int{0, 0}}}
	at := func(point int, vars []int, cells []api.Cell) api.State {
		return api.State{Point: point, Vars: vars, Ints: null, Cells: cells}
	}
	begin := at(0, null, nil)
	for _, c := range []struct {
		acts   []string
		script []int
		fuel   int
		states []api.State
	}{
		{nil, nil, 9, []api.State{begin}},
		{[]string{"skip @1"}, nil, 0, []api.State{begin}},
		{[]string{"skip @1"}, nil, -1, []api.State{begin}},
		{[]string{"skip @1"}, nil, 1, []api.State{begin, at(1, null, nil)}},
		{[]string{"new p0 s0 @1"}, nil, 9, []api.State{begin}},
		{[]string{"new p0 s0 @1"}, []int{1}, 9, []api.State{begin, at(1, []int{1, 0}, cell)}},
		{[]string{"new p0 s0 @1", "null p0 @2"}, []int{1}, 9, []api.State{begin, at(1, []int{1, 0}, cell), at(2, null, cell)}},
		// Behind an error the state is told as that of each step is: it is as it was.
		{[]string{"free p0 @1"}, nil, 9, []api.State{begin, begin}},
		{[]string{"new p0 s0 @1", "free p0 @1", "free p0 @1"}, []int{1}, 9, []api.State{begin, at(1, []int{1, 0}, cell), at(2, []int{1, 0}, gone), at(2, []int{1, 0}, gone)}},
	} {
		if got := slices.Collect(run.Watch(row(t, c.acts...), c.script, c.fuel)); !slices.EqualFunc(got, c.states, alike) {
			t.Errorf("%v with %v and %d: %v, want %v", c.acts, c.script, c.fuel, got, c.states)
		}
	}
}

// P16.2, R3: it may be left at any time, gone over again, and nested.
func TestWatchAgain(t *testing.T) {
	g, script := one(t)
	_, states := modelRun(g, script, math.MaxInt)
	watch := run.Watch(g, script, math.MaxInt)
	for leave := range len(states) + 1 {
		var seen []api.State
		for s := range watch {
			if len(seen) == leave {
				break
			}
			seen = append(seen, s)
		}
		if !slices.EqualFunc(seen, states[:leave], alike) {
			t.Errorf("left behind %d: %v", leave, seen)
		}
	}
	i := 0
	for s := range watch {
		if i%9 == 0 {
			if inner := slices.Collect(watch); !slices.EqualFunc(inner, states, alike) {
				t.Errorf("nested at %d: %v", i, inner)
			}
		}
		if !alike(s, states[i]) {
			t.Errorf("state %d around others: %v, want %v", i, s, states[i])
		}
		i++
	}
}

// What an iterator tells is not of what is left of it.
func TestWatchStopsWhenLeft(t *testing.T) {
	g, script := one(t)
	for leave := range 5 {
		told := 0
		run.Watch(g, script, math.MaxInt)(func(api.State) bool {
			told++
			return told <= leave
		})
		if told != leave+1 {
			t.Errorf("left behind %d: %d told", leave+1, told)
		}
	}
}

// twin is of its own memory, as x is in all, the spare room of its lists too.
func twin[T any](x T) T {
	var y T
	twinTo(reflect.ValueOf(&y).Elem(), reflect.ValueOf(&x).Elem())
	return y
}

func twinTo(to, from reflect.Value) {
	switch from.Kind() {
	case reflect.Struct:
		for i := range from.NumField() {
			twinTo(to.Field(i), from.Field(i))
		}
	case reflect.Slice:
		if from.IsNil() {
			return
		}
		room := from.Slice(0, from.Cap())
		to.Set(reflect.MakeSlice(from.Type(), room.Len(), room.Len()))
		for i := range room.Len() {
			twinTo(to.Index(i), room.Index(i))
		}
		to.Set(to.Slice(0, from.Len()))
	default:
		to.Set(from)
	}
}

// whole is x with all the room of its lists.
func whole(v reflect.Value) reflect.Value {
	if v.Kind() == reflect.Slice {
		return v.Slice(0, v.Cap())
	}
	return v
}

// untouched tells whether a and b are alike, the spare room of their lists too.
func untouched(a, b reflect.Value) bool {
	switch a.Kind() {
	case reflect.Struct:
		for i := range a.NumField() {
			if !untouched(a.Field(i), b.Field(i)) {
				return false
			}
		}
		return true
	case reflect.Slice:
		if a.Len() != b.Len() || a.Cap() != b.Cap() {
			return false
		}
		for i := range a.Cap() {
			if !untouched(whole(a).Index(i), whole(b).Index(i)) {
				return false
			}
		}
		return true
	}
	return a.Interface() == b.Interface()
}

// scribble writes over all numbers of what x points to, and of its lists, the spare room too; a list of lists is written over behind what it holds.
func scribble(x any) {
	scribbleOver(reflect.ValueOf(x).Elem())
}

func scribbleOver(v reflect.Value) {
	switch v.Kind() {
	case reflect.Struct:
		for i := range v.NumField() {
			scribbleOver(v.Field(i))
		}
	case reflect.Slice:
		for i := range v.Cap() {
			scribbleOver(whole(v).Index(i))
		}
	case reflect.Int:
		v.SetInt(-7)
	case reflect.Bool:
		v.SetBool(!v.Bool())
	}
}

// lists tells all lists of v, and of what these hold.
func lists(v reflect.Value) []reflect.Value {
	var all []reflect.Value
	switch v.Kind() {
	case reflect.Struct:
		for i := range v.NumField() {
			all = append(all, lists(v.Field(i))...)
		}
	case reflect.Slice:
		all = append(all, v)
		for i := range v.Len() {
			all = append(all, lists(v.Index(i))...)
		}
	}
	return all
}

// wantApart holds that no two lists of what x points to share memory, spare room and all.
func wantApart(t *testing.T, x any) {
	t.Helper()
	type stretch struct{ from, to uintptr }
	var taken []stretch
	for _, l := range lists(reflect.ValueOf(x).Elem()) {
		if l.Cap() > 0 {
			from := l.Pointer()
			taken = append(taken, stretch{from, from + uintptr(l.Cap())*l.Type().Elem().Size()})
		}
	}
	slices.SortFunc(taken, func(a, b stretch) int { return int(a.from) - int(b.from) })
	for i := 1; i < len(taken); i++ {
		if taken[i].from < taken[i-1].to {
			t.Fatalf("two lists share memory: %v", x)
		}
	}
}

// roomy is what is handed in, with something in the room behind the ends of all lists.
func roomy(g api.Graph, script []int) (api.Graph, []int) {
	g.Edges = append(slices.Clone(g.Edges), g.Edges...)[:len(g.Edges)]
	g.Heads = append(slices.Clone(g.Heads), 0, 1, 2)[:len(g.Heads)]
	g.Fields = append(slices.Clone(g.Fields), g.Fields...)[:len(g.Fields)]
	return g, append(slices.Clone(script), 1, 0, 1, 0)[:len(script)]
}

// R3: what is handed in is not changed, nor what lies behind its lists' ends, which is not looked at.
func TestNothingHandedInIsChanged(t *testing.T) {
	g, script := one(t)
	for inputs := range len(script) + 1 {
		g, script := roomy(g, script[:inputs])
		before, scriptBefore := twin(g), twin(script)
		for _, fuel := range []int{-1, 0, 1, 30, math.MaxInt} {
			r := hold(t, g, script, fuel)
			scribble(&r)
			for s := range run.Watch(g, script, fuel) {
				scribble(&s)
			}
		}
		if !untouched(reflect.ValueOf(g), reflect.ValueOf(before)) || !untouched(reflect.ValueOf(script), reflect.ValueOf(scriptBefore)) {
			t.Fatalf("what is handed in is changed: %v, %v", g, script)
		}
	}
}

// R3, R4: what Run tells is of its own memory, and the same again.
func TestResultsAreNew(t *testing.T) {
	g, script := one(t)
	for fuel := range 100 {
		so, _ := modelRun(g, script, fuel)
		h, inputs := roomy(g, script)
		first, again := run.Run(h, inputs, fuel), run.Run(h, inputs, fuel)
		wantApart(t, &first)
		scribble(&first)
		if !sameResult(again, so) {
			t.Fatalf("two answers share memory: %+v, want %+v", again, so)
		}
		scribble(&h)
		scribble(&inputs)
		if !sameResult(again, so) {
			t.Fatalf("what is handed in is kept: %+v, want %+v", again, so)
		}
	}
}

// P16.2, R3: each state is of its own memory: the run goes on as if nobody had written over it, and so do the other states.
func TestStatesAreNew(t *testing.T) {
	g, script := one(t)
	_, states := modelRun(g, script, math.MaxInt)
	all := slices.Collect(run.Watch(g, script, math.MaxInt))
	i := 0
	for s := range run.Watch(g, script, math.MaxInt) {
		if !alike(s, states[i]) {
			t.Fatalf("state %d, the ones ahead being written over: %v, want %v", i, s, states[i])
		}
		scribble(&s)
		scribble(&all[i])
		for k := i + 1; k < len(all); k++ {
			if !alike(all[k], states[k]) {
				t.Fatalf("states %d and %d share memory", i, k)
			}
		}
		i++
	}
	for s := range run.Watch(g, script, math.MaxInt) {
		wantApart(t, &s)
	}
	together := slices.Collect(run.Watch(g, script, math.MaxInt))
	wantApart(t, &together)
}

// R3: what Watch tells is as it was when it was asked for.
func TestWatchKeepsWhatItWasHanded(t *testing.T) {
	base, script := one(t)
	_, states := modelRun(base, script, math.MaxInt)
	g, inputs := roomy(base, script)
	watch := run.Watch(g, inputs, math.MaxInt)
	wrong := g
	wrong.Points = 0
	none := run.Watch(wrong, inputs, math.MaxInt)
	i := 0
	for s := range watch {
		if i == 20 {
			scribble(&g)
			scribble(&inputs)
		}
		if !alike(s, states[i]) {
			t.Fatalf("state %d: %v, want %v", i, s, states[i])
		}
		i++
	}
	if again := slices.Collect(watch); !slices.EqualFunc(again, states, alike) {
		t.Errorf("what was handed in is kept: %v", again)
	}
	if graph.Right(g) || len(slices.Collect(none)) != 0 {
		t.Errorf("a graph that was not right is, or tells states")
	}
	// What was not right when it was handed in is not gone over when it is.
	late := twin(base)
	late.Heads[0] = -1
	none = run.Watch(late, script, math.MaxInt)
	late.Heads[0] = base.Heads[0]
	if !graph.Right(late) || len(slices.Collect(none)) != 0 {
		t.Errorf("a graph that became right tells states")
	}
}
