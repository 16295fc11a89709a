package check_test

import (
	"slices"
	"strconv"
	"strings"
	"testing"

	"umbral/api"
	"umbral/check"
	"umbral/parse"
	"umbral/scope"
)

// read tells the program of a text, and the place of the mark # in it, which is left out.
func read(t *testing.T, text string) (api.Program, int) {
	t.Helper()
	at := strings.IndexByte(text, '#')
	p, _, err := parse.Program(strings.Replace(text, "#", "", 1))
	if err != api.OK {
		t.Fatalf("%.200q is no program: %v", text, err)
	}
	return p, at
}

// table is that of a program.
func table(t *testing.T, p api.Program) *scope.Table {
	t.Helper()
	x, at, err := scope.Build(p)
	if err != api.OK {
		t.Fatalf("no table: %d, %v", at, err)
	}
	return x
}

// way is a path of names: its own place is 100, those of its hops 101, 102 and so on.
func way(names string) api.Path {
	l := strings.Split(names, "->")
	w := api.Path{Name: l[0], At: 100}
	for i, name := range l[1:] {
		w.Hops = append(w.Hops, api.Hop{Name: name, At: 101 + i})
	}
	return w
}

const paths = `struct a { a* s; b* o; c* e; } struct b { a* o; b* s; } struct c { }
int i; a* x; b* y; c* z; a* n; int m;
void p(b* x, int y, c* d) { a* i; int z; int e; }
void main() { b* k; }`

func TestPath(t *testing.T) {
	p, _ := read(t, paths)
	x := table(t, p)
	for _, c := range []struct {
		proc int
		way  string
		want told
	}{
		// globals
		{1, "i", told{scope.Int, 0, api.OK}},
		{1, "m", told{scope.Int, 0, api.OK}},
		{1, "x", told{0, 0, api.OK}},
		{1, "y", told{1, 0, api.OK}},
		{1, "z", told{2, 0, api.OK}},
		{0, "n", told{0, 0, api.OK}},
		{0, "m", told{scope.Int, 0, api.OK}},
		// parameters and locals, which hide globals of another type
		{0, "x", told{1, 0, api.OK}},
		{0, "y", told{scope.Int, 0, api.OK}},
		{0, "d", told{2, 0, api.OK}},
		{0, "i", told{0, 0, api.OK}},
		{0, "z", told{scope.Int, 0, api.OK}},
		{0, "e", told{scope.Int, 0, api.OK}},
		{1, "k", told{1, 0, api.OK}},
		// names that are none there
		{0, "k", told{0, 100, api.ErrNone}},
		{1, "d", told{0, 100, api.ErrNone}},
		{1, "e", told{0, 100, api.ErrNone}},
		{1, "a", told{0, 100, api.ErrNone}},
		{1, "s", told{0, 100, api.ErrNone}},
		{1, "main", told{0, 100, api.ErrNone}},
		{1, "", told{0, 100, api.ErrNone}},
		{1, "X", told{0, 100, api.ErrNone}},
		{1, "x ", told{0, 100, api.ErrNone}},
		{1, "\xff", told{0, 100, api.ErrNone}},
		{1, "d->s", told{0, 100, api.ErrNone}},
		{1, "->s->z", told{0, 100, api.ErrNone}},
		// one hop
		{1, "x->s", told{0, 0, api.OK}},
		{1, "x->o", told{1, 0, api.OK}},
		{1, "x->e", told{2, 0, api.OK}},
		{1, "y->o", told{0, 0, api.OK}},
		{1, "y->s", told{1, 0, api.OK}},
		{0, "x->o", told{0, 0, api.OK}},
		{0, "i->o", told{1, 0, api.OK}},
		{1, "y->e", told{0, 101, api.ErrNone}},
		{1, "z->s", told{0, 101, api.ErrNone}},
		{0, "x->e", told{0, 101, api.ErrNone}},
		{1, "x->", told{0, 101, api.ErrNone}},
		{1, "x->x", told{0, 101, api.ErrNone}},
		{1, "i->s", told{0, 101, api.ErrType}},
		{0, "y->s", told{0, 101, api.ErrType}},
		{0, "z->", told{0, 101, api.ErrType}},
		// many hops
		{1, "x->s->s->s->s->s->s->s->s", told{0, 0, api.OK}},
		{1, "x->o->o->o->o->o->o->o->o", told{0, 0, api.OK}},
		{1, "x->o->o->o->o->o->o->o->o->o", told{1, 0, api.OK}},
		{1, "x->o->s->o->e", told{2, 0, api.OK}},
		{1, "y->o->e", told{2, 0, api.OK}},
		{1, "x->s->s->e->s", told{0, 104, api.ErrNone}},
		{1, "x->o->e->o", told{0, 102, api.ErrNone}},
		{1, "x->o->o->o->none", told{0, 104, api.ErrNone}},
		{1, "x->none->s->o", told{0, 101, api.ErrNone}},
		{1, "x->none->none", told{0, 101, api.ErrNone}},
		{1, "z->s->s", told{0, 101, api.ErrNone}},
		{1, "i->s->none", told{0, 101, api.ErrType}},
		{1, "i->none->s", told{0, 101, api.ErrType}},
	} {
		what := c.way + " in " + p.Procs[c.proc].Name
		holdPath(t, what, x, p.Procs[c.proc], way(c.way), c.want)
		kind, wrong := world{p, p.Procs[c.proc]}.path(way(c.way))
		if (told{kind, wrong.at, wrong.err}) != c.want {
			t.Errorf("the model of %s: %d, %v", what, kind, wrong)
		}
	}
}

// Places are told as they stand, whatever they are; with no error the place is 0.
func TestPathOfPlaces(t *testing.T) {
	p, _ := read(t, paths)
	x := table(t, p)
	for _, at := range []int{0, 1, -1, 1 << 62, -1 << 63} {
		w := api.Path{Name: "none", At: at, Hops: []api.Hop{{Name: "s", At: 5}}}
		holdPath(t, "no variable", x, p.Procs[1], w, told{0, at, api.ErrNone})
		w = api.Path{Name: "i", At: 5, Hops: []api.Hop{{Name: "s", At: at}, {Name: "s", At: 6}}}
		holdPath(t, "a number's field", x, p.Procs[1], w, told{0, at, api.ErrType})
		w = api.Path{Name: "x", At: 5, Hops: []api.Hop{{Name: "s", At: 6}, {Name: "none", At: at}, {Name: "none", At: 7}}}
		holdPath(t, "no field", x, p.Procs[1], w, told{0, at, api.ErrNone})
		w = api.Path{Name: "x", At: at, Hops: []api.Hop{{Name: "s", At: at}, {Name: "o", At: at}}}
		holdPath(t, "a right one", x, p.Procs[1], w, told{1, 0, api.OK})
	}
}

// Of several that have one name the first one of parameters and locals counts: no text has such a procedure.
func TestPathOfOneName(t *testing.T) {
	p, _ := read(t, paths)
	x := table(t, p)
	types := []string{"", "a", "b", "c"}
	for i, first := range types {
		for _, second := range types {
			one, two := api.Decl{Type: first, Name: "v"}, api.Decl{Type: second, Name: "v"}
			w := api.Decl{Type: second, Name: "w"}
			for _, q := range []api.Proc{
				{Params: []api.Decl{one, two}},
				{Params: []api.Decl{one}, Locals: []api.Decl{two}},
				{Locals: []api.Decl{one, two}},
				{Params: []api.Decl{w, one}, Locals: []api.Decl{two, two}},
				{Params: []api.Decl{w}, Locals: []api.Decl{w, one, two, w}},
			} {
				holdPath(t, "two of one name", x, q, way("v"), told{i - 1, 0, api.OK})
				for _, name := range []string{"x", "i", "y"} {
					for k := range q.Params {
						q.Params[k].Name = name
					}
					for k := range q.Locals {
						q.Locals[k].Name = name
					}
					l := slices.Concat(q.Params, q.Locals)
					holdPath(t, "a global's name", x, q, way(name), told{slices.Index(types, l[0].Type) - 1, 0, api.OK})
				}
			}
		}
	}
}

// A Type that the table does not tell is Int, though a global or a struct of another program has its name.
func TestPathOfOtherTypes(t *testing.T) {
	p, _ := read(t, paths)
	x := table(t, p)
	for _, name := range []string{"none", "int", "x", "s", "main", "A", "a ", "\xff", "a\x00"} {
		d := []api.Decl{{Type: name, Name: "x"}}
		for _, q := range []api.Proc{{Params: d}, {Locals: d}, {Params: d, Locals: []api.Decl{{Type: "a", Name: "x"}}}} {
			holdPath(t, "of the Type "+strconv.Quote(name), x, q, way("x"), told{scope.Int, 0, api.OK})
			holdPath(t, "a field, of the Type "+strconv.Quote(name), x, q, way("x->s->s"), told{0, 101, api.ErrType})
		}
	}
}

// Names that no text could have are names as others are, the empty one too.
func TestPathOfOddNames(t *testing.T) {
	for _, name := range []string{"", "\x00", "\xff", "x y", "->", "a_name_of_more_than_16_bytes", strings.Repeat("x", 1<<16)} {
		p := api.Program{
			Structs: []api.Struct{{Name: "a"}, {Name: name + "!", Fields: []api.Decl{{Type: name + "!", Name: name}, {Type: "a", Name: name + "?"}}}},
			Globals: []api.Decl{{Name: "i"}, {Type: name + "!", Name: name}},
		}
		x := table(t, p)
		hops := []api.Hop{{Name: name, At: 1}, {Name: name + "?", At: 2}, {Name: name, At: 3}}
		for _, q := range []api.Proc{{}, {Params: []api.Decl{{Name: "i"}, {Type: name + "!", Name: name}}}, {Locals: []api.Decl{{Type: name + "!", Name: name}}}} {
			what := strconv.Quote(name[:min(9, len(name))])
			holdPath(t, what, x, q, api.Path{Name: name}, told{1, 0, api.OK})
			holdPath(t, what+" and a hop", x, q, api.Path{Name: name, Hops: hops[:1]}, told{1, 0, api.OK})
			holdPath(t, what+" and two hops", x, q, api.Path{Name: name, Hops: hops[:2]}, told{0, 0, api.OK})
			holdPath(t, what+" and three hops", x, q, api.Path{Name: name, Hops: hops}, told{0, 3, api.ErrNone})
		}
		q := api.Proc{Params: []api.Decl{{Name: name}}}
		holdPath(t, "a number of an odd name", x, q, api.Path{Name: name, Hops: hops}, told{0, 1, api.ErrType})
	}
}

// R5: a table that no call made tells no Type, field or global.
func TestPathOfTablesThatNoCallMade(t *testing.T) {
	var none *scope.Table
	for what, x := range map[string]*scope.Table{"nil": none, "zero": {}, "new": new(scope.Table)} {
		for _, kind := range []string{"", "a", "none"} {
			d := []api.Decl{{Type: kind, Name: "v"}, {Type: kind}}
			for _, q := range []api.Proc{{Params: d}, {Locals: d}} {
				holdPath(t, what, x, q, way("v"), told{scope.Int, 0, api.OK})
				holdPath(t, what, x, q, way(""), told{scope.Int, 0, api.OK})
				holdPath(t, what, x, q, way("v->s->o"), told{0, 101, api.ErrType})
				holdPath(t, what, x, q, way("x"), told{0, 100, api.ErrNone})
				holdPath(t, what, x, q, way("x->s"), told{0, 100, api.ErrNone})
			}
		}
		holdPath(t, what, x, api.Proc{}, api.Path{}, told{0, 0, api.ErrNone})
	}
}

// A table of a program without structs has but numbers.
func TestPathOfAnEmptyTable(t *testing.T) {
	x := table(t, api.Program{Globals: []api.Decl{{Name: "i"}}})
	q := api.Proc{Locals: []api.Decl{{Type: "a", Name: "v"}}}
	for _, name := range []string{"i", "v"} {
		holdPath(t, "a number", x, q, way(name), told{scope.Int, 0, api.OK})
		holdPath(t, "a number's field", x, q, way(name+"->s"), told{0, 101, api.ErrType})
	}
	holdPath(t, "none", x, q, way("w->s"), told{0, 100, api.ErrNone})
	holdPath(t, "nothing", x, api.Proc{}, api.Path{}, told{0, 0, api.ErrNone})
}

// R1: more hops, parameters and locals than any text has.
func TestPathOfLongOnes(t *testing.T) {
	p, _ := read(t, paths)
	x := table(t, p)
	const most = 1 << 18
	hops := slices.Repeat([]api.Hop{{Name: "o", At: 7}}, most)
	holdPath(t, "many hops", x, p.Procs[1], api.Path{Name: "x", Hops: hops}, told{0, 0, api.OK})
	holdPath(t, "many hops and one", x, p.Procs[1], api.Path{Name: "y", Hops: hops[:most-1]}, told{0, 0, api.OK})
	hops[most-1] = api.Hop{Name: "none", At: 8}
	hops[most/2].Name = "s"
	holdPath(t, "many hops and a wrong one", x, p.Procs[1], api.Path{Name: "x", Hops: hops}, told{0, 8, api.ErrNone})
	holdPath(t, "many hops behind a number", x, p.Procs[1], api.Path{Name: "i", Hops: hops}, told{0, 7, api.ErrType})
	l := slices.Repeat([]api.Decl{{Type: "a", Name: "v"}}, most)
	l[most-1] = api.Decl{Type: "b", Name: "w"}
	holdPath(t, "many parameters", x, api.Proc{Params: l}, way("w->o->o"), told{1, 0, api.OK})
	holdPath(t, "many locals", x, api.Proc{Params: l[:most/2], Locals: l[most/2:]}, way("w->o"), told{0, 0, api.OK})
	holdPath(t, "a global behind many", x, api.Proc{Params: l}, way("i"), told{scope.Int, 0, api.OK})
}

// R1, R4: what Path is not to look at may be anything, and it tells the same again.
func TestPathLooksAtNamesAlone(t *testing.T) {
	p, _ := read(t, paths)
	x := table(t, p)
	itself := []api.Stmt{{Kind: api.While}}
	itself[0].Then = itself
	q := api.Proc{Name: "\xff", At: -1, End: -2, Params: []api.Decl{{Type: "b", Name: "v", At: -3}}, Body: itself}
	for range 3 {
		kind, at, err := check.Path(x, q, way("v->o->e"))
		if kind != 2 || at != 0 || err != api.OK {
			t.Errorf("Path: %d, %d, %v", kind, at, err)
		}
	}
}
