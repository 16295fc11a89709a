package lower_test

import (
	"math"
	"reflect"
	"slices"
	"testing"

	"umbral/api"
	"umbral/lower"
)

// twin is of its own memory, as x is in all, the spare room of its lists too.
func twin[T any](x T) T {
	var y T
	twinTo(reflect.ValueOf(&y).Elem(), reflect.ValueOf(&x).Elem())
	return y
}

func twinTo(to, from reflect.Value) {
	switch from.Kind() {
	case reflect.Struct:
		for i := range from.NumField() {
			twinTo(to.Field(i), from.Field(i))
		}
	case reflect.Slice:
		if from.IsNil() {
			return
		}
		room := from.Slice(0, from.Cap())
		to.Set(reflect.MakeSlice(from.Type(), room.Len(), room.Len()))
		for i := range room.Len() {
			twinTo(to.Index(i), room.Index(i))
		}
		to.Set(to.Slice(0, from.Len()))
	default:
		to.Set(from)
	}
}

// untouched tells whether a and b are alike, the spare room of their lists too.
func untouched(a, b reflect.Value) bool {
	switch a.Kind() {
	case reflect.Struct:
		for i := range a.NumField() {
			if !untouched(a.Field(i), b.Field(i)) {
				return false
			}
		}
		return true
	case reflect.Slice:
		if a.Len() != b.Len() || a.Cap() != b.Cap() {
			return false
		}
		for i := range a.Cap() {
			if !untouched(a.Slice(0, a.Cap()).Index(i), b.Slice(0, b.Cap()).Index(i)) {
				return false
			}
		}
		return true
	}
	return a.Interface() == b.Interface()
}

// roomy is x with something in the room behind the ends of all its lists.
func roomy[T any](x T) T {
	x = twin(x)
	roomTo(reflect.ValueOf(&x).Elem())
	return x
}

func roomTo(v reflect.Value) {
	switch v.Kind() {
	case reflect.Struct:
		for i := range v.NumField() {
			roomTo(v.Field(i))
		}
	case reflect.Slice:
		for i := range v.Len() {
			roomTo(v.Index(i))
		}
		more := reflect.New(v.Type().Elem()).Elem()
		if v.Len() > 0 {
			more.Set(v.Index(v.Len() - 1))
		}
		v.Set(reflect.Append(reflect.Append(v, more), more).Slice(0, v.Len()))
	}
}

// full is a program with all kinds of things in it.
const full = base + `
void grow(t* a, int k) { t* b; b = new t; if (b != null) { b->n = x; x = b; } while (k < 3) { k = k + 1; } }
void drop() { while (x != null) { y = x->n; free(x); x = y; } }
void main() { t* l; int k; k = input; while (?) { grow(l, k); grow(x->n->n, 7); } { ; x->n->m = z; l = x->n->m->o; } if (x->n == y->n) { drop(); } else { z = new u; } }`

// R3: what is handed in is not changed, nor what lies behind its lists' ends, which is not looked at.
func TestNothingIsChanged(t *testing.T) {
	var all []api.Program
	for _, text := range []string{full, "void main() { }", "void main() { x = y; }", "void p() { p(); } void main() { }", many(16, "int g%;") + "void main() { " + many(16, "int l%;") + "}"} {
		p, _ := read(t, text)
		all = append(all, p)
	}
	for i := range 300 {
		p, _ := made(t, i)
		all = append(all, p)
	}
	for _, p := range append(all, api.Program{}) {
		want, wantAt, wantErr := lower.Graph(p)
		r := roomy(p)
		before := twin(r)
		g, at, err := lower.Graph(r)
		if !untouched(reflect.ValueOf(r), reflect.ValueOf(before)) {
			t.Errorf("a program is changed: %v", p)
		}
		if at != wantAt || err != wantErr || !reflect.DeepEqual(likeness(g), likeness(want)) {
			t.Errorf("with room behind lists: %v at %d, want %v at %d, %q, want %q", err, at, wantErr, wantAt, facts(g), facts(want))
		}
	}
}

// scribble writes over all of a graph's lists, their spare room too.
func scribble(g api.Graph) {
	for i := range g.Edges[:cap(g.Edges)] {
		g.Edges[:cap(g.Edges)][i] = api.Edge{From: -7, To: -8}
	}
	for i := range g.Heads[:cap(g.Heads)] {
		g.Heads[:cap(g.Heads)][i] = -7
	}
	for i := range g.Fields[:cap(g.Fields)] {
		g.Fields[:cap(g.Fields)][i] = api.Field{Owner: -7, Target: -8}
	}
}

// R3, R4: answers are new memory, and asking again gives the same, whatever was asked between.
func TestAnswersAreNew(t *testing.T) {
	p, _ := read(t, full)
	other, _ := read(t, base+"void main() { while (?) { x = y->n->n; } }")
	cycle, _ := read(t, "void p() { p(); } void main() { }")
	first, _, err := lower.Graph(p)
	if err != api.OK || len(first.Edges) < 50 || len(first.Heads) != 4 || len(first.Fields) != 3 {
		t.Fatalf("the full program: %v, %q", err, facts(first))
	}
	want := twin(likeness(first))
	for range 5 {
		again, _, _ := lower.Graph(p)
		scribble(first)
		if !reflect.DeepEqual(likeness(again), want) {
			t.Fatalf("answers share memory: %q, want %q", facts(again), facts(want))
		}
		between, _, _ := lower.Graph(other)
		holdWrong(t, "a cycle", cycle, 5, api.ErrCycle)
		scribble(between)
		if !reflect.DeepEqual(likeness(again), want) {
			t.Fatalf("answers of other programs share memory: %q, want %q", facts(again), facts(want))
		}
		_ = append(again.Heads[:0], slices.Repeat([]int{-9}, cap(again.Heads))...)
		first, _, _ = lower.Graph(p)
		if !reflect.DeepEqual(likeness(first), want) {
			t.Fatalf("asked again: %q, want %q", facts(first), facts(want))
		}
	}
}

// R3: a caller may change the program behind the call.
func TestNothingIsKept(t *testing.T) {
	p, _ := read(t, full)
	g, _, _ := lower.Graph(p)
	want := twin(likeness(g))
	main := &p.Procs[2]
	main.Body = main.Body[:1]
	if h, err := holdModel(t, "a shorter one", p); err != api.OK || h.Points != 2 {
		t.Errorf("a shorter one: %v, %q", err, facts(h))
	}
	main.Body[0].Value.At = 999
	main.End = 1000
	p.Structs[0].Fields = p.Structs[0].Fields[:1]
	p.Procs = p.Procs[2:]
	holdModel(t, "another one", p)
	clear(p.Structs)
	clear(p.Globals)
	clear(p.Procs)
	if !reflect.DeepEqual(likeness(g), want) {
		t.Errorf("an answer changed behind the call: %q, want %q", facts(g), facts(want))
	}
}

// spoiled changes one thing of a program, chosen by lot, to what may not be, or to what may.
func spoiled(s *lot, p api.Program) api.Program {
	p = twin(p)
	var ints []reflect.Value
	var texts []reflect.Value
	var lists []reflect.Value
	var look func(v reflect.Value)
	look = func(v reflect.Value) {
		switch v.Kind() {
		case reflect.Struct:
			for i := range v.NumField() {
				look(v.Field(i))
			}
		case reflect.Slice:
			lists = append(lists, v)
			for i := range v.Len() {
				look(v.Index(i))
			}
		case reflect.Int:
			ints = append(ints, v)
		case reflect.String:
			texts = append(texts, v)
		}
	}
	look(reflect.ValueOf(&p).Elem())
	switch s.below(4) {
	case 0:
		one(s, ints...).SetInt(int64(one(s, -1, 0, 1, 2, 3, 4, 5, 6, 7, math.MinInt, math.MaxInt)))
	case 1:
		one(s, texts...).SetString(one(s, "", "v0", "v3", "v7", "n0", "s0", "s1", "p0", "p1", "main", "while", "\xff"))
	case 2:
		v := one(s, lists...)
		v.Set(v.Slice(0, s.below(v.Len()+1)))
	case 3:
		v := one(s, lists...)
		other := one(s, lists...)
		if v.Type() == other.Type() {
			v.Set(other)
		}
	}
	return p
}

// R1, R2: programs that are spoiled by lot, some of them so that lists hold themselves, are told as layers 9 and 10 tell them, or lowered.
func TestSpoiledPrograms(t *testing.T) {
	seen := map[api.Errno]int{}
	for i := range 800 {
		p, text := made(t, i)
		s := lot(i)
		for range 8 {
			bad := spoiled(&s, p)
			holdHandedOn(t, text, bad)
			_, _, err := lower.Graph(bad)
			seen[err]++
		}
	}
	for _, err := range []api.Errno{api.OK, api.ErrBad, api.ErrNone, api.ErrType, api.ErrTwice, api.ErrMany} {
		if seen[err] < 5 {
			t.Errorf("by lot came %v", seen)
		}
	}
}

// Places of a tree are handed on, be they in no order; of what no text has a place for, all that is asked is that the call ends.
func TestPlacesOfTrees(t *testing.T) {
	for _, at := range []int{math.MinInt, -1, 0, 65536, 65537, math.MaxInt} {
		p, _ := read(t, base+"void main() { x = y->n; }")
		p.Procs[0].End, p.Procs[0].Body[0].Value.Path.Hops[0].At = at, at
		g, gotAt, err := lower.Graph(p)
		if at < 0 || at > api.MaxSource {
			continue
		}
		if gotAt != 0 || err != api.OK || g.EndAt != at || len(g.Edges) != 1 || g.Edges[0].Act.At != at {
			t.Errorf("places of %d: %v at %d, %q, %v", at, err, gotAt, facts(g), g.Edges)
		}
		holdRight(t, "places at their ends", p, g)
	}
}
