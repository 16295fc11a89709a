package tree_test

import (
	"math"
	"reflect"
	"slices"
	"strconv"
	"testing"

	"umbral/api"
	"umbral/tree"
)

// lot tells numbers by lot, the same ones in each run.
type lot uint64

func (s *lot) below(n int) int {
	*s = *s*6364136223846793005 + 1442695040888963407
	return int(uint64(*s>>33) % uint64(n))
}

// full fills v with things that are no zeros, each unlike all others of its kind:
// each list gets size items, but statements stand within each other deep times only.
func full(v reflect.Value, size, deep int, next *int) {
	*next++
	switch v.Kind() {
	case reflect.Int:
		v.SetInt(int64(*next))
	case reflect.String:
		v.SetString("s" + strconv.Itoa(*next))
	case reflect.Bool:
		v.SetBool(true)
	case reflect.Struct:
		for i := range v.NumField() {
			full(v.Field(i), size, deep, next)
		}
	case reflect.Slice:
		if v.Type().Elem() == reflect.TypeFor[api.Stmt]() {
			deep--
		}
		if deep < 0 {
			return
		}
		v.Set(reflect.MakeSlice(v.Type(), size, size))
		for i := range size {
			full(v.Index(i), size, deep, next)
		}
	}
}

// whole is a program in which nothing is zero, but lists of statements at the third level.
func whole() api.Program {
	var p api.Program
	next := 0
	full(reflect.ValueOf(&p).Elem(), 2, 2, &next)
	return p
}

// chance fills v by lot, zeros, empty lists, nil ones and such with spare room among them.
// Numbers, names and texts are few, so that many are alike.
func chance(v reflect.Value, deep int, s *lot) {
	switch v.Kind() {
	case reflect.Int:
		v.SetInt(int64(s.below(10) - 1))
	case reflect.String:
		v.SetString([]string{"", "a", "b", "\xff"}[s.below(4)])
	case reflect.Bool:
		v.SetBool(s.below(2) == 1)
	case reflect.Struct:
		for i := range v.NumField() {
			chance(v.Field(i), deep, s)
		}
	case reflect.Slice:
		n := s.below(4)
		if deep == 0 || n == 0 && s.below(2) == 0 {
			return
		}
		spare := n + s.below(3)
		v.Set(reflect.MakeSlice(v.Type(), spare, spare))
		for i := range spare {
			chance(v.Index(i), deep-1, s)
		}
		v.Set(v.Slice(0, n))
	}
}

func chancePlan(deep int, s *lot) api.Program {
	var p api.Program
	chance(reflect.ValueOf(&p).Elem(), deep, s)
	return p
}

func chanceList(deep int, s *lot) []api.Stmt {
	var l []api.Stmt
	chance(reflect.ValueOf(&l).Elem(), deep, s)
	return l
}

// chanceTree is a list of statements that have but what tells of lists within lists.
func chanceTree(deep int, s *lot) []api.Stmt {
	if deep == 0 {
		return nil
	}
	l := make([]api.Stmt, s.below(4), 4)
	for i := range l {
		l[i] = api.Stmt{Kind: s.below(10) - 1, Name: string(rune('a' + s.below(9))), Then: chanceTree(deep-1, s), Else: chanceTree(deep-1, s)}
	}
	return l
}

// twin is of its own memory, as x is in all, the spare room of its lists too.
func twin[T any](x T) T {
	var y T
	twinTo(reflect.ValueOf(&y).Elem(), reflect.ValueOf(&x).Elem())
	return y
}

func twinTo(to, from reflect.Value) {
	switch from.Kind() {
	case reflect.Struct:
		for i := range from.NumField() {
			twinTo(to.Field(i), from.Field(i))
		}
	case reflect.Slice:
		if from.IsNil() {
			return
		}
		room := from.Slice(0, from.Cap())
		to.Set(reflect.MakeSlice(from.Type(), room.Len(), room.Len()))
		for i := range room.Len() {
			twinTo(to.Index(i), room.Index(i))
		}
		to.Set(to.Slice(0, from.Len()))
	default:
		to.Set(from)
	}
}

// alike tells whether a and b are alike: nil is as an empty list.
// With room, the spare room of lists counts too; without places, At and End do not.
func alike(a, b reflect.Value, room, places bool) bool {
	switch a.Kind() {
	case reflect.Struct:
		for i := range a.NumField() {
			if !places && isPlace(a.Type().Field(i)) {
				continue
			}
			if !alike(a.Field(i), b.Field(i), room, places) {
				return false
			}
		}
		return true
	case reflect.Slice:
		if a.Len() != b.Len() || room && a.Cap() != b.Cap() {
			return false
		}
		if room {
			a, b = a.Slice(0, a.Cap()), b.Slice(0, b.Cap())
		}
		for i := range a.Len() {
			if !alike(a.Index(i), b.Index(i), room, places) {
				return false
			}
		}
		return true
	}
	return a.Interface() == b.Interface()
}

func isPlace(f reflect.StructField) bool { return f.Name == "At" || f.Name == "End" }

func equal[T any](a, b T) bool { return alike(reflect.ValueOf(a), reflect.ValueOf(b), false, true) }

func untouched[T any](a, b T) bool {
	return alike(reflect.ValueOf(a), reflect.ValueOf(b), true, true)
}

func butForPlaces[T any](a, b T) bool {
	return alike(reflect.ValueOf(a), reflect.ValueOf(b), false, false)
}

// visit goes over all things within v that are no structs, lists too, with the way to each.
func visit(v reflect.Value, way string, place bool, see func(v reflect.Value, way string, place bool)) {
	switch v.Kind() {
	case reflect.Struct:
		for i := range v.NumField() {
			f := v.Type().Field(i)
			visit(v.Field(i), way+"."+f.Name, isPlace(f), see)
		}
		return
	case reflect.Slice:
		for i := range v.Len() {
			visit(v.Index(i), way+"["+strconv.Itoa(i)+"]", false, see)
		}
	}
	see(v, way, place)
}

func visitAll[T any](x *T, see func(v reflect.Value, way string, place bool)) {
	visit(reflect.ValueOf(x).Elem(), "", false, see)
}

// changes tells other things that v may be, each unlike v.
func changes(v reflect.Value) []reflect.Value {
	switch v.Kind() {
	case reflect.Int:
		var out []reflect.Value
		for _, n := range []int{0, -1, int(v.Int()) + 1, math.MaxInt} {
			if n != int(v.Int()) {
				out = append(out, reflect.ValueOf(n))
			}
		}
		return out
	case reflect.String:
		s := v.String()
		out := []reflect.Value{reflect.ValueOf(s + "x"), reflect.ValueOf(s + "\x00"), reflect.ValueOf("\xff" + s)}
		if s != "" {
			out = append(out, reflect.ValueOf(""))
		}
		return out
	case reflect.Bool:
		return []reflect.Value{reflect.ValueOf(!v.Bool())}
	}
	zero := reflect.Zero(v.Type().Elem())
	out := []reflect.Value{reflect.Append(v.Slice3(0, v.Len(), v.Len()), zero)}
	if n := v.Len(); n > 0 {
		out = append(out, v.Slice(0, n-1), v.Slice(1, n), reflect.Zero(v.Type()))
		out = append(out, reflect.Append(v.Slice3(0, n, n), v.Index(n-1)))
	}
	return out
}

func set(place, name string, at int) api.Stmt {
	return api.Stmt{Kind: api.Set, At: at, Place: api.Path{Name: place, At: at}, Value: api.Value{
		Kind: api.Way, At: at + 4, Path: api.Path{Name: name, At: at + 4, Hops: []api.Hop{{Name: "n", At: at + 5}}}}}
}

func call(name string) api.Stmt { return api.Stmt{Kind: api.Call, Name: name} }

// ordinary is struct t { t* n; } t* x; int i; void p(t* a, int k) { t* b; b = a->n; } and a main with loops.
func ordinary() api.Program {
	return api.Program{
		Structs: []api.Struct{{Name: "t", At: 7, Fields: []api.Decl{{Type: "t", Name: "n", At: 14}}}},
		Globals: []api.Decl{{Type: "t", Name: "x", At: 22}, {Name: "i", At: 29}},
		Procs: []api.Proc{
			{Name: "p", At: 37, End: 70, Params: []api.Decl{{Type: "t", Name: "a", At: 42}, {Name: "k", At: 49}},
				Locals: []api.Decl{{Type: "t", Name: "b", At: 57}}, Body: []api.Stmt{set("b", "a", 60)}},
			{Name: "main", At: 80, End: 200, Body: mainBody()},
		},
	}
}

func mainBody() []api.Stmt {
	return []api.Stmt{
		{Kind: api.Set, At: 90, Place: api.Path{Name: "x", At: 90}, Value: api.Value{Kind: api.Fresh, At: 94, Type: "t"}},
		{Kind: api.If, At: 101, Cond: api.Cond{Kind: api.Other, At: 105,
			Left:  api.Value{Kind: api.Way, At: 105, Path: api.Path{Name: "x", At: 105}},
			Right: api.Value{At: 110}},
			Then: []api.Stmt{
				{Kind: api.While, At: 118, Then: []api.Stmt{
					{Kind: api.Call, At: 130, Name: "p", Args: []api.Value{
						{Kind: api.Way, At: 132, Path: api.Path{Name: "x", At: 132}},
						{Kind: api.Number, At: 135, Left: api.Term{N: 5, At: 135}}}},
					{Kind: api.Set, At: 140, Place: api.Path{Name: "i", At: 140}, Value: api.Value{
						Kind: api.Plus, At: 144, Left: api.Term{Name: "i", At: 144}, Right: api.Term{N: 1, At: 148}}},
				}},
			},
			Else: []api.Stmt{{Kind: api.Free, At: 160, Place: api.Path{Name: "x", At: 165}}, {Kind: api.Block, At: 170}},
			Both: true},
		{At: 180},
	}
}

// P5.1: Plain

// plainModel is p with all places 0, by going over all that p holds.
func plainModel(p api.Program) api.Program {
	own := twin(p)
	visitAll(&own, func(v reflect.Value, _ string, place bool) {
		if place {
			v.SetInt(0)
		}
	})
	return own
}

func holdPlain(t *testing.T, what string, p api.Program) {
	t.Helper()
	before := twin(p)
	got := tree.Plain(p)
	if want := plainModel(p); !equal(got, want) {
		t.Errorf("Plain of %s: %+v, want %+v", what, got, want)
	}
	if !untouched(p, before) {
		t.Errorf("Plain of %s changes it", what)
	}
}

func TestPlain(t *testing.T) {
	holdPlain(t, "an ordinary one", ordinary())
	holdPlain(t, "a whole one", whole())
	holdPlain(t, "nothing", api.Program{})
	holdPlain(t, "empty lists", api.Program{Structs: []api.Struct{}, Globals: []api.Decl{}, Procs: []api.Proc{}})
	s := lot(1)
	for range 300 {
		holdPlain(t, "one by lot", chancePlan(4, &s))
	}
}

func TestPlainByHand(t *testing.T) {
	got := tree.Plain(ordinary())
	if len(got.Procs) != 2 || got.Procs[1].End != 0 || got.Procs[1].Body[1].Then[0].Then[0].Args[1].Left.At != 0 {
		t.Errorf("Plain leaves places: %+v", got)
	}
	if args := got.Procs[1].Body[1].Then[0].Then[0].Args; len(args) != 2 || args[1].Left.N != 5 || args[0].Path.Name != "x" {
		t.Errorf("Plain changes Args: %+v", args)
	}
	if !got.Procs[1].Body[1].Both || got.Procs[0].Body[0].Value.Path.Hops[0] != (api.Hop{Name: "n"}) {
		t.Errorf("Plain changes what is no place: %+v", got)
	}
}

// Each place, wherever it stands and whatever it is, is 0 in the answer, and all else is as it was.
func TestPlainOfEachPlace(t *testing.T) {
	for _, n := range []int{1, -1, math.MaxInt, math.MinInt} {
		p, want := plainModel(whole()), plainModel(whole())
		visitAll(&p, func(v reflect.Value, way string, place bool) {
			if place {
				v.SetInt(int64(n))
				if got := tree.Plain(p); !equal(got, want) {
					t.Errorf("Plain, %s %d: %+v, want %+v", way, n, got, want)
				}
				v.SetInt(0)
			}
		})
	}
}

// rooms goes over the lists of v that have room, as the bytes that they take up from and to.
func rooms(v reflect.Value, way string, see func(v reflect.Value, way string, from, to uintptr)) {
	visit(v, way, false, func(v reflect.Value, way string, _ bool) {
		if v.Kind() == reflect.Slice && v.Cap() > 0 {
			from := v.Pointer()
			see(v, way, from, from+uintptr(v.Cap())*v.Type().Elem().Size())
		}
	})
}

type room struct {
	way      string
	from, to uintptr
}

func TestPlainIsOfItsOwnMemory(t *testing.T) {
	s := lot(2)
	for i := range 100 {
		p := chancePlan(4, &s)
		if i == 0 {
			p = whole()
		}
		got := tree.Plain(p)
		var all []room
		note := func(_ reflect.Value, way string, from, to uintptr) { all = append(all, room{way, from, to}) }
		rooms(reflect.ValueOf(got), "answer", note)
		own := len(all)
		rooms(reflect.ValueOf(p), "argument", note)
		for i, a := range all[:own] {
			for _, b := range all[i+1:] {
				if a.from < b.to && b.from < a.to {
					t.Fatalf("%s shares memory with %s", a.way, b.way)
				}
			}
		}
	}
}

// spoil overwrites all that p's lists have room for, the innermost first.
func spoil(p *api.Program) {
	rooms(reflect.ValueOf(p).Elem(), "", func(v reflect.Value, _ string, _, _ uintptr) {
		v.Slice(0, v.Cap()).Clear()
		for i := range v.Cap() {
			spoiled(v.Slice(0, v.Cap()).Index(i))
		}
	})
}

func spoiled(v reflect.Value) {
	for i := range v.NumField() {
		switch f := v.Field(i); f.Kind() {
		case reflect.Int:
			f.SetInt(-77)
		case reflect.String:
			f.SetString("spoiled")
		}
	}
}

func TestPlainIsNotChangedBehindTheCall(t *testing.T) {
	s := lot(3)
	for range 100 {
		p := chancePlan(4, &s)
		want := plainModel(p)
		got := tree.Plain(p)
		before := twin(p)
		again := tree.Plain(p)
		spoil(&again)
		if !untouched(p, before) || !equal(got, want) {
			t.Fatal("who changes an answer changes the argument, or another answer")
		}
		spoil(&p)
		if !equal(got, want) {
			t.Fatal("who changes the argument changes the answer")
		}
	}
}

// One list that stands at several places becomes several lists.
func TestPlainOfOneListTwice(t *testing.T) {
	hops := []api.Hop{{Name: "n", At: 3}}
	body := []api.Stmt{{Place: api.Path{Hops: hops}, Value: api.Value{Path: api.Path{Hops: hops}}}}
	both := []api.Stmt{{Kind: api.If, Then: body, Else: body}}
	got := tree.Plain(api.Program{Procs: []api.Proc{{Body: both}, {Body: both}}})
	got.Procs[0].Body[0].Then[0].Place.Hops[0].Name = "other"
	got.Procs[0].Body[0].Then[0].Name = "other"
	if s := got.Procs[0].Body[0].Then[0]; s.Value.Path.Hops[0].Name != "n" {
		t.Error("two paths of an answer share a list")
	}
	for _, s := range []api.Stmt{got.Procs[0].Body[0].Else[0], got.Procs[1].Body[0].Then[0]} {
		if s.Name != "" || s.Place.Hops[0].Name != "n" {
			t.Error("two lists of an answer are one")
		}
	}
}

// P5.1: Same, SameList

func holdSame(t *testing.T, what string, a, b api.Program, want bool) {
	t.Helper()
	beforeA, beforeB := twin(a), twin(b)
	if got := tree.Same(a, b); got != want {
		t.Errorf("Same, %s: %v", what, got)
	}
	if got := tree.Same(b, a); got != want {
		t.Errorf("Same, turned, %s: %v", what, got)
	}
	if !untouched(a, beforeA) || !untouched(b, beforeB) {
		t.Errorf("Same, %s, changes an argument", what)
	}
}

func holdSameList(t *testing.T, what string, a, b []api.Stmt, want bool) {
	t.Helper()
	beforeA, beforeB := twin(a), twin(b)
	if got := tree.SameList(a, b); got != want {
		t.Errorf("SameList, %s: %v", what, got)
	}
	if got := tree.SameList(b, a); got != want {
		t.Errorf("SameList, turned, %s: %v", what, got)
	}
	if !untouched(a, beforeA) || !untouched(b, beforeB) {
		t.Errorf("SameList, %s, changes an argument", what)
	}
}

func TestSame(t *testing.T) {
	holdSame(t, "ordinary ones", ordinary(), ordinary(), true)
	holdSame(t, "whole ones", whole(), whole(), true)
	holdSame(t, "nothing", api.Program{}, api.Program{}, true)
	holdSame(t, "unlike ones", ordinary(), whole(), false)
	holdSame(t, "an ordinary one and nothing", ordinary(), api.Program{}, false)
	p := ordinary()
	holdSame(t, "the very same", p, p, true)
}

// Two programs are unlike in one thing alone: each field, each list's length, each place once.
func TestSameOfEachField(t *testing.T) {
	for _, start := range []api.Program{whole(), ordinary()} {
		p, other := start, twin(start)
		seen := 0
		visitAll(&other, func(v reflect.Value, way string, place bool) {
			was := reflect.New(v.Type()).Elem()
			was.Set(v)
			for i, change := range changes(v) {
				v.Set(change)
				if tree.Same(p, other) != place || tree.Same(other, p) != place {
					t.Errorf("Same, %s, change %d: %v, want %v", way, i, !place, place)
				}
				v.Set(was)
				seen++
			}
		})
		if !tree.Same(p, other) || seen < 100 {
			t.Errorf("%d changes were tried", seen)
		}
	}
}

func TestSameListOfEachField(t *testing.T) {
	for _, p := range []api.Program{whole(), ordinary()} {
		for _, proc := range p.Procs {
			l, other := proc.Body, twin(proc.Body)
			visitAll(&other, func(v reflect.Value, way string, place bool) {
				was := reflect.New(v.Type()).Elem()
				was.Set(v)
				for i, change := range changes(v) {
					v.Set(change)
					if tree.SameList(l, other) != place || tree.SameList(other, l) != place {
						t.Errorf("SameList, %s, change %d: %v, want %v", way, i, !place, place)
					}
					v.Set(was)
				}
			})
		}
	}
}

// Whatever a Kind names, and whether it is named itself: all fields count.
func TestSameOfAllKinds(t *testing.T) {
	for kind := -2; kind < 9; kind++ {
		l := []api.Stmt{{Kind: kind, Cond: api.Cond{Kind: kind}, Value: api.Value{Kind: kind}, Args: []api.Value{{Kind: kind}}}}
		other := twin(l)
		visitAll(&other, func(v reflect.Value, way string, place bool) {
			was := reflect.New(v.Type()).Elem()
			was.Set(v)
			for _, change := range changes(v) {
				v.Set(change)
				holdSameList(t, way+" of Kind "+strconv.Itoa(kind), l, other, place)
				v.Set(was)
			}
		})
	}
}

// All lists that have no items are alike.
func TestSameOfNilAndEmpty(t *testing.T) {
	holdSame(t, "nil and empty", api.Program{}, api.Program{Structs: []api.Struct{}, Globals: []api.Decl{}, Procs: []api.Proc{}}, true)
	holdSameList(t, "nil and nil", nil, nil, true)
	holdSameList(t, "nil and empty", nil, []api.Stmt{}, true)
	holdSameList(t, "nil and empty with room", nil, ordinary().Procs[1].Body[:0], true)
	holdSameList(t, "nil and one that is zero", nil, make([]api.Stmt, 1), false)
	p, other := whole(), whole()
	visitAll(&other, func(v reflect.Value, way string, _ bool) {
		if v.Kind() != reflect.Slice {
			return
		}
		theirs := at(reflect.ValueOf(&p).Elem(), reflect.ValueOf(&other).Elem(), v.Addr().Pointer())
		was, wasTheirs := v.Slice(0, v.Len()), theirs.Slice(0, theirs.Len())
		v.Set(reflect.MakeSlice(v.Type(), 0, 3))
		theirs.SetZero()
		holdSame(t, way+" nil and empty", p, other, true)
		v.Set(was)
		holdSame(t, way+" nil and full", p, other, was.Len() == 0)
		theirs.Set(wasTheirs)
	})
}

// at is what stands in a where in b, which is as a, stands what p leads to.
func at(a, b reflect.Value, p uintptr) reflect.Value {
	if a.Kind() != reflect.Struct && b.Addr().Pointer() == p {
		return a
	}
	switch a.Kind() {
	case reflect.Struct:
		for i := range a.NumField() {
			if found := at(a.Field(i), b.Field(i), p); found.IsValid() {
				return found
			}
		}
	case reflect.Slice:
		for i := range min(a.Len(), b.Len()) {
			if found := at(a.Index(i), b.Index(i), p); found.IsValid() {
				return found
			}
		}
	}
	return reflect.Value{}
}

// What stands behind a list's end counts for nothing; what stands at another place does.
func TestSameOfRoomAndOrder(t *testing.T) {
	l := []api.Stmt{call("a"), call("b"), call("c")}
	holdSameList(t, "room", l[:1], []api.Stmt{call("a"), call("x")}[:1], true)
	holdSameList(t, "a beginning", l[:2], l, false)
	holdSameList(t, "an end", l[1:], l, false)
	holdSameList(t, "turned", l, []api.Stmt{call("c"), call("b"), call("a")}, false)
	holdSameList(t, "twice", l[:1], []api.Stmt{call("a"), call("a")}, false)
	then := []api.Stmt{{Kind: api.If, Then: l}}
	holdSameList(t, "Then and Else", then, []api.Stmt{{Kind: api.If, Else: l}}, false)
	holdSameList(t, "a Block around", l, []api.Stmt{{Kind: api.Block, Then: l}}, false)
	holdSameList(t, "Left and Right", []api.Stmt{{Value: api.Value{Left: api.Term{N: 1}}}}, []api.Stmt{{Value: api.Value{Right: api.Term{N: 1}}}}, false)
	holdSame(t, "Params and Locals", api.Program{Procs: []api.Proc{{Params: []api.Decl{{Name: "a"}}}}},
		api.Program{Procs: []api.Proc{{Locals: []api.Decl{{Name: "a"}}}}}, false)
}

// change makes at most a few changes to p, places among them.
func change(p *api.Program, s *lot) {
	count := 0
	visitAll(p, func(reflect.Value, string, bool) { count++ })
	for range s.below(4) {
		chosen, i := s.below(count), 0
		var found reflect.Value
		visitAll(p, func(v reflect.Value, _ string, _ bool) {
			if i == chosen {
				found = v
			}
			i++
		})
		if found.IsValid() {
			of := changes(found)
			found.Set(of[s.below(len(of))])
		}
	}
}

func TestSameByLot(t *testing.T) {
	s := lot(4)
	seen := map[bool]int{}
	for range 400 {
		p := chancePlan(4, &s)
		other := twin(p)
		change(&other, &s)
		want := butForPlaces(p, other)
		holdSame(t, "by lot", p, other, want)
		seen[want]++
		l, m := chanceList(3, &s), chanceList(3, &s)
		holdSameList(t, "by lot", l, m, butForPlaces(l, m))
	}
	if seen[true] < 20 || seen[false] < 20 {
		t.Errorf("too few were tried: %v", seen)
	}
}

// P5.2

// told is what Deep, Count and Loops answer, and Calls.
type told struct {
	deep, count, loops int
	calls              []string
}

func tell(l []api.Stmt) told {
	return told{tree.Deep(l), tree.Count(l), tree.Loops(l), tree.Calls(l)}
}

func (a told) is(b told) bool {
	return a.deep == b.deep && a.count == b.count && a.loops == b.loops && slices.Equal(a.calls, b.calls)
}

func holdTold(t *testing.T, what string, l []api.Stmt, want told) {
	t.Helper()
	before := twin(l)
	if got := tell(l); !got.is(want) {
		t.Errorf("%s: %v, want %v", what, got, want)
	}
	if !untouched(l, before) {
		t.Errorf("%s: the list is changed", what)
	}
}

// level is a statement, and how many statements it stands within.
type level struct {
	stmt api.Stmt
	deep int
}

// model goes over the statements one by one: those that are open stand last first.
func model(l []api.Stmt) told {
	var want told
	var open []level
	push := func(l []api.Stmt, deep int) {
		for _, s := range slices.Backward(l) {
			open = append(open, level{s, deep})
		}
	}
	push(l, 0)
	for len(open) > 0 {
		s, deep := open[len(open)-1].stmt, open[len(open)-1].deep
		open = open[:len(open)-1]
		push(s.Else, deep+1)
		push(s.Then, deep+1)
		want.count++
		if s.Kind == 5 {
			want.loops++
		}
		if s.Kind == 3 && !slices.Contains(want.calls, s.Name) {
			want.calls = append(want.calls, s.Name)
		}
		if s.Kind == 4 || s.Kind == 5 || s.Kind == 6 {
			deep++
		}
		want.deep = max(want.deep, deep)
	}
	return want
}

func TestExample(t *testing.T) {
	holdTold(t, "a While with a Set", []api.Stmt{{Kind: api.While, Then: []api.Stmt{{Kind: api.Set}}}}, told{1, 2, 1, nil})
}

func TestListsOfNothing(t *testing.T) {
	holdTold(t, "nil", nil, told{})
	holdTold(t, "empty", []api.Stmt{}, told{})
	holdTold(t, "empty with room", []api.Stmt{{Kind: api.While, Then: []api.Stmt{call("a")}}}[:0], told{})
}

func TestOrdinaryList(t *testing.T) {
	holdTold(t, "ordinary", mainBody(), told{2, 8, 1, []string{"p"}})
	holdTold(t, "a Set alone", []api.Stmt{set("x", "y", 0)}, told{0, 1, 0, nil})
}

// One statement of each Kind, those that are not named too, with empty lists and with full ones.
func TestEachKind(t *testing.T) {
	set := []api.Stmt{{Kind: api.Set}}
	for kind := -3; kind < 12; kind++ {
		block, loops := 0, 0
		if kind == 4 || kind == 5 || kind == 6 {
			block = 1
		}
		if kind == 5 {
			loops = 1
		}
		var calls []string
		if kind == 3 {
			calls = []string{"f"}
		}
		what := "Kind " + strconv.Itoa(kind)
		one := func(then, other []api.Stmt) []api.Stmt {
			return []api.Stmt{{Kind: kind, Name: "f", Then: then, Else: other}}
		}
		holdTold(t, what, one(nil, nil), told{block, 1, loops, calls})
		holdTold(t, what+" with empty lists", one([]api.Stmt{}, []api.Stmt{}), told{block, 1, loops, calls})
		holdTold(t, what+" with Then", one(set, nil), told{1, 2, loops, calls})
		holdTold(t, what+" with Else", one(nil, set), told{1, 2, loops, calls})
		holdTold(t, what+" with both", one(set, set), told{1, 3, loops, calls})
		holdTold(t, what+" with a Block in Then", one([]api.Stmt{{Kind: api.Block}}, set), told{2, 3, loops, calls})
		holdTold(t, what+" with an If in Else", one(set, []api.Stmt{{Kind: api.If}}), told{2, 3, loops, calls})
		inner := one(set, nil)
		holdTold(t, what+" within a Skip", []api.Stmt{{Else: inner}}, told{2, 3, loops, calls})
		holdTold(t, what+" behind a deeper one", append([]api.Stmt{{Else: []api.Stmt{{Then: inner}}}}, inner...), told{3, 6, 2 * loops, calls})
		holdTold(t, what+" ahead of a deeper one", append(inner[:1:1], api.Stmt{Then: []api.Stmt{{Else: inner}}}), told{3, 6, 2 * loops, calls})
	}
}

// Both stands for no list.
func TestBothIsNoList(t *testing.T) {
	holdTold(t, "Both", []api.Stmt{{Kind: api.Set, Both: true}}, told{0, 1, 0, nil})
	holdTold(t, "Args", []api.Stmt{{Kind: api.Set, Args: make([]api.Value, 5)}}, told{0, 1, 0, nil})
}

// Names stand as they do in the text: a statement, its Then, its Else, what comes behind it.
func TestCallsInOrder(t *testing.T) {
	with := func(s api.Stmt, then, other []api.Stmt) api.Stmt {
		s.Then, s.Else = then, other
		return s
	}
	l := []api.Stmt{
		with(call("z"), []api.Stmt{call("y"), with(call("x"), []api.Stmt{call("w")}, []api.Stmt{call("v")}), call("u")}, []api.Stmt{call("t"), call("s")}),
		with(api.Stmt{Kind: api.If}, nil, []api.Stmt{call("r")}),
		with(api.Stmt{Kind: api.While}, []api.Stmt{call("q")}, nil),
		with(api.Stmt{Kind: api.Set, Name: "no"}, []api.Stmt{call("p")}, nil),
		call("a"),
	}
	holdTold(t, "in order", l, told{2, 15, 1, []string{"z", "y", "x", "w", "v", "u", "t", "s", "r", "q", "p", "a"}})
}

func TestCallsEachOnce(t *testing.T) {
	for _, c := range []struct {
		what string
		l    []api.Stmt
		want []string
	}{
		{"twice", []api.Stmt{call("a"), call("b"), call("a")}, []string{"a", "b"}},
		{"in Then and in Else", []api.Stmt{{Kind: api.If, Then: []api.Stmt{call("b"), call("a")}, Else: []api.Stmt{call("a"), call("c"), call("b")}}}, []string{"b", "a", "c"}},
		{"in Else and behind", []api.Stmt{{Else: []api.Stmt{call("b")}}, call("a"), call("b")}, []string{"b", "a"}},
		{"ahead and in Then", []api.Stmt{call("b"), {Kind: api.While, Then: []api.Stmt{call("a"), call("b")}}}, []string{"b", "a"}},
		{"itself", []api.Stmt{{Kind: api.Call, Name: "a", Then: []api.Stmt{call("a")}}}, []string{"a"}},
		{"empty", []api.Stmt{call("")}, []string{""}},
		{"empty among others", []api.Stmt{call("a"), call(""), call("b"), call("")}, []string{"a", "", "b"}},
		{"names that may not be", []api.Stmt{call("\xff"), call("\xfe"), call("while"), call("A"), call("a"), call("a "), call("a\x00"), call("\xff")},
			[]string{"\xff", "\xfe", "while", "A", "a", "a ", "a\x00"}},
		{"names of others", []api.Stmt{{Name: "a"}, {Kind: api.Set, Name: "b"}, {Kind: 7, Name: "c"}, {Kind: -1, Name: "d"}, {Kind: api.Block, Name: "e", Then: []api.Stmt{{Name: "f"}}}}, nil},
		{"ahead of them one of no Call", []api.Stmt{{Kind: api.Set, Name: "a"}, call("a")}, []string{"a"}},
		{"a name of a place", []api.Stmt{{Kind: api.Call, Name: "a", Place: api.Path{Name: "b"}}}, []string{"a"}},
	} {
		if got := tree.Calls(c.l); !slices.Equal(got, c.want) {
			t.Errorf("Calls, %s: %q, want %q", c.what, got, c.want)
		}
	}
}

func TestCallsIsOfItsOwnMemory(t *testing.T) {
	l := []api.Stmt{call("a"), call("b"), call("c")}
	got, again := tree.Calls(l), tree.Calls(l)
	for i := range got[:cap(got)] {
		got[:cap(got)][i] = "x"
	}
	if !slices.Equal(again, []string{"a", "b", "c"}) || !slices.Equal(tree.Calls(l), again) {
		t.Error("answers of Calls share memory")
	}
}

func TestToldByLot(t *testing.T) {
	s := lot(5)
	deepest := 0
	for i := range 2000 {
		l := chanceTree(i%5+1, &s)
		want := model(l)
		if got := tell(l); !got.is(want) {
			t.Errorf("by lot, %+v: %v, want %v", l, got, want)
		}
		deepest = max(deepest, want.deep)
	}
	for range 300 {
		l := chanceList(3, &s)
		holdTold(t, "by lot, with all fields", l, model(l))
	}
	if deepest < 5 {
		t.Errorf("none was deeper than %d", deepest)
	}
}

// P5.3

func TestPlainIsTheSame(t *testing.T) {
	s := lot(6)
	all := []api.Program{{}, {Procs: []api.Proc{}}, ordinary(), whole()}
	for range 300 {
		all = append(all, chancePlan(4, &s))
	}
	for _, p := range all {
		plain := tree.Plain(p)
		holdSame(t, "p and Plain", p, plain, true)
		if again := tree.Plain(plain); !equal(again, plain) || !tree.Same(again, plain) {
			t.Errorf("Plain again: %+v, want %+v", again, plain)
		}
		other := twin(p)
		change(&other, &s)
		holdSame(t, "Plain and another", plain, other, equal(plain, tree.Plain(other)))
	}
}

// At the document's limits: 2^16 lists within each other, in Then and in Else, and long lists.

func TestDeepest(t *testing.T) {
	const most = 1 << 16
	nest := func(last string) []api.Stmt {
		l := []api.Stmt{call(last)}
		for i := range most {
			s := api.Stmt{Kind: api.While, At: i, Then: l}
			if i%2 == 1 {
				s = api.Stmt{Kind: api.If, At: i, Else: l}
			}
			l = []api.Stmt{s}
		}
		return l
	}
	l := nest("a")
	if got := tell(l); !got.is(told{most, most + 1, most / 2, []string{"a"}}) {
		t.Errorf("the deepest: %v", got)
	}
	if !tree.SameList(l, nest("a")) || tree.SameList(l, nest("b")) {
		t.Error("SameList of the deepest")
	}
	p := api.Program{Procs: []api.Proc{{Body: l}}}
	plain := tree.Plain(p)
	if !tree.Same(p, plain) || plain.Procs[0].Body[0].At != 0 || tree.Deep(plain.Procs[0].Body) != most {
		t.Error("Plain of the deepest")
	}
}

func TestLongest(t *testing.T) {
	const most = 50000
	l := make([]api.Stmt, 2*most)
	want := make([]string, most)
	for i := range l {
		l[i] = call(strconv.Itoa(i % most))
		l[i].At = i
	}
	for i := range want {
		want[i] = strconv.Itoa(i)
	}
	holdTold(t, "the longest", l, told{0, 2 * most, 0, want})
	plain := tree.Plain(api.Program{Procs: []api.Proc{{Body: l}}})
	if !tree.SameList(l, plain.Procs[0].Body) || tree.SameList(l, plain.Procs[0].Body[1:]) {
		t.Error("SameList of the longest")
	}
}
