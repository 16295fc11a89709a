package scope_test

import (
	"reflect"
	"slices"
	"strconv"
	"testing"

	"umbral/api"
	"umbral/scope"
)

// spoil changes all that lies in v, and in the spare room of its lists.
func spoil(v reflect.Value) {
	switch v.Kind() {
	case reflect.Int:
		v.SetInt(v.Int() + 17)
	case reflect.String:
		v.SetString(v.String() + "!")
	case reflect.Bool:
		v.SetBool(!v.Bool())
	case reflect.Struct:
		for i := range v.NumField() {
			spoil(v.Field(i))
		}
	case reflect.Slice:
		for i := range v.Cap() {
			spoil(v.Slice(0, v.Cap()).Index(i))
		}
	}
}

// roomy is a program whose lists have spare room with things in it.
func roomy() api.Program {
	decls := func(kind string, count int) []api.Decl { return variablesOf(kind, 10)[:count] }
	structs := []api.Struct{{Name: "a", At: 1, Fields: decls("b", 2)}, {Name: "b", At: 2, Fields: decls("a", 3)}, {Name: "spare"}}
	procs := []api.Proc{{Name: "p", At: 3, Params: decls("a", 4), Locals: variables(4, 9)[:3]}, {Name: "q", Params: decls("", 2)}, {Name: "spare"}}
	return api.Program{Structs: structs[:2], Globals: append(decls("a", 3), variables(3, 4)...)[:5], Procs: procs[:2]}
}

func variablesOf(kind string, count int) []api.Decl {
	l := variables(0, count)
	for i := range l {
		l[i].Type = kind
	}
	return l
}

// What is changed in the program behind Build changes no answer.
func TestTableIsOfItsOwnMemory(t *testing.T) {
	for _, text := range []string{"", ordinary, many(8, "struct s% { s0* n; } ") + many(16, "s1* x%; ")} {
		p, _ := read(t, text)
		holdOwn(t, text, p)
	}
	holdOwn(t, "lists with spare room", roomy())
}

func holdOwn(t *testing.T, what string, p api.Program) {
	t.Helper()
	names := namesOf(p)
	x := holdRight(t, what, p)
	before := told(x, names)
	spoil(reflect.ValueOf(&p).Elem())
	compare(t, what+", spoilt behind Build", told(x, names), before)
	for i := range p.Structs {
		p.Structs[i] = api.Struct{}
	}
	clear(p.Globals)
	clear(p.Procs)
	compare(t, what+", cleared behind Build", told(x, names), before)
}

// What is changed in the list that Fields told, and in its spare room, changes no other answer.
func TestFieldsAreNewEachTime(t *testing.T) {
	for count := range 9 {
		p := api.Program{Structs: []api.Struct{{Name: "z"}, {Name: "s", Fields: variablesOf("s", count)}}}
		x := holdRight(t, "fields", p)
		want := slices.Repeat([]api.Field{{Owner: 1, Target: 1}}, count)
		first, second := x.Fields(), x.Fields()
		for i := range first[:cap(first)] {
			first[:cap(first)][i] = api.Field{Owner: -7, Target: -7}
		}
		first = append(first, api.Field{Owner: 5})
		if third := x.Fields(); !slices.Equal(second, want) || !slices.Equal(third, want) {
			t.Errorf("Fields of %d: %v, %v, want %v", count, second, third, want)
		}
		for i := range second[:cap(second)] {
			if f := second[:cap(second)][i]; f.Owner == -7 || f.Target == -7 {
				t.Errorf("Fields of %d: lists share spare room", count)
			}
		}
		hold(t, "Field", one(x.Field(1, "v0")), named{0, 0, count > 0})
		hold(t, "how many were added", len(first), count+1)
	}
}

// Two tables have nothing to do with each other, nor does a wrong program between with them.
func TestTablesStandByThemselves(t *testing.T) {
	p, _ := read(t, ordinary)
	q, _ := read(t, "struct next { next* node; } int x; next* i; void main() { } void add() { }")
	names := append(namesOf(p), namesOf(q)...)
	x := holdRight(t, "one", p)
	before := told(x, names)
	y := holdRight(t, "the other one", q)
	if _, _, err := scope.Build(api.Program{Structs: []api.Struct{{Name: "a"}, {Name: "a"}}}); err != api.ErrTwice {
		t.Errorf("a wrong one: %v", err)
	}
	compare(t, "one, behind others", told(x, names), before)
	compare(t, "the other one", told(y, names), wantTold(q, names))
}

// R1: Build asks for no statements, places or numbers, whatever these are.
func TestBuildOfAnyTree(t *testing.T) {
	body := []api.Stmt{{Kind: 77, At: -1 << 63, Name: "\xff", Args: []api.Value{{Kind: -3}}}}
	itself := []api.Stmt{{Kind: api.While}}
	itself[0].Then = itself
	for _, l := range [][]api.Stmt{body, itself, make([]api.Stmt, 10000)} {
		p := api.Program{Procs: []api.Proc{{Name: "p", Body: l, At: -5, End: -6}, {Name: "p", At: -1 << 63}}}
		if x, at, err := scope.Build(p); x != nil || at != -1<<63 || err != api.ErrTwice {
			t.Errorf("a wrong one: %v, %d, %v", x != nil, at, err)
		}
		p.Procs[1].Name = "q"
		if x, at, err := scope.Build(p); x == nil || at != 0 || err != api.OK {
			t.Errorf("a right one: %v, %d, %v", x != nil, at, err)
		}
	}
}

// R1: long lists and long names.
func TestBuildOfLongOnes(t *testing.T) {
	const most = 50000
	decls := make([]api.Decl, most)
	structs := make([]api.Struct, most)
	procs := make([]api.Proc, most)
	for i := range most {
		name := "n" + strconv.Itoa(i)
		decls[i] = api.Decl{Name: name, At: i + 1}
		structs[i] = api.Struct{Name: name, At: i + 1}
		procs[i] = api.Proc{Name: name, At: i + 1}
	}
	for _, c := range []struct {
		what string
		p    api.Program
		at   int
	}{
		{"structs", api.Program{Structs: structs}, 9},
		{"globals", api.Program{Globals: decls}, 17},
		{"procedures", api.Program{Procs: procs}, 17},
		{"parameters", api.Program{Procs: []api.Proc{{Params: decls}}}, 17},
		{"locals", api.Program{Procs: []api.Proc{{Locals: decls}}}, 17},
		{"fields", api.Program{Structs: []api.Struct{{Name: "s", Fields: variablesOf("s", most)}}}, 108},
	} {
		if x, at, err := scope.Build(c.p); x != nil || at != c.at || err != api.ErrMany {
			t.Errorf("long lists of %s: %v, %d, %v, want none, %d, many", c.what, x != nil, at, err, c.at)
		}
	}
	long := string(make([]byte, 1<<20))
	x := holdRight(t, "a long name", api.Program{Globals: []api.Decl{{Name: long}, {Name: long + "x"}}})
	hold(t, "a long name", two(x.Global(long+"x")), named{-1, 1, true})
	hold(t, "a long name of none", two(x.Global(long+"y")), named{})
}
