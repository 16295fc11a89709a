package scope_test

import (
	"slices"
	"strconv"
	"testing"

	"umbral/api"
	"umbral/scope"
)

// hold holds what a call told.
func hold[T comparable](t *testing.T, what string, got, want T) {
	t.Helper()
	if got != want {
		t.Errorf("%s: %v, want %v", what, got, want)
	}
}

// one is what a call that tells one number told.
func one(number int, found bool) named { return named{number: number, found: found} }

func two(kind, number int, found bool) named { return named{kind, number, found} }

// table is that of a text.
func table(t *testing.T, text string) *scope.Table {
	t.Helper()
	p, _ := read(t, text)
	return holdRight(t, text, p)
}

func TestExample(t *testing.T) {
	p := api.Program{Structs: []api.Struct{{Name: "node", Fields: []api.Decl{{Type: "node", Name: "next"}}}}}
	x := holdRight(t, "the example", p)
	hold(t, "Field", one(x.Field(0, "next")), named{0, 0, true})
	if l := x.Fields(); len(l) != 1 || l[0] != (api.Field{}) {
		t.Errorf("Fields: %v, want one of 0 and 0", l)
	}
}

func TestInt(t *testing.T) { hold(t, "Int", scope.Int, -1) }

func TestTableOfAnOrdinaryOne(t *testing.T) {
	x := table(t, ordinary)
	hold(t, "Structs", x.Structs(), 2)
	hold(t, "Struct node", one(x.Struct("node")), named{0, 0, true})
	hold(t, "Struct item", one(x.Struct("item")), named{0, 1, true})
	hold(t, "Struct x", one(x.Struct("x")), named{})
	hold(t, "Type of none", one(x.Type("")), named{0, -1, true})
	hold(t, "Type node", one(x.Type("node")), named{0, 0, true})
	hold(t, "Type item", one(x.Type("item")), named{0, 1, true})
	hold(t, "Type int", one(x.Type("int")), named{})
	hold(t, "Field next", one(x.Field(0, "next")), named{0, 0, true})
	hold(t, "Field first", one(x.Field(0, "first")), named{0, 1, true})
	hold(t, "Field of item", one(x.Field(1, "next")), named{})
	hold(t, "Field of Int", one(x.Field(scope.Int, "next")), named{})
	hold(t, "Global x", two(x.Global("x")), named{0, 0, true})
	hold(t, "Global i", two(x.Global("i")), named{-1, 0, true})
	hold(t, "Global y", two(x.Global("y")), named{1, 1, true})
	hold(t, "Global j", two(x.Global("j")), named{-1, 1, true})
	hold(t, "Global z", two(x.Global("z")), named{0, 2, true})
	hold(t, "Global of a local", two(x.Global("a")), named{})
	hold(t, "Global of a procedure", two(x.Global("main")), named{})
	hold(t, "Proc add", one(x.Proc("add")), named{0, 0, true})
	hold(t, "Proc main", one(x.Proc("main")), named{0, 1, true})
	hold(t, "Proc of a global", one(x.Proc("x")), named{})
	if l := x.Fields(); !slices.Equal(l, []api.Field{{Owner: 0, Target: 0}, {Owner: 0, Target: 1}}) {
		t.Errorf("Fields: %v", l)
	}
}

// Fields are counted over all structs; they lead to structs ahead, behind, and to their own.
func TestFieldsOfSeveral(t *testing.T) {
	x := table(t, "struct a { c* n; a* m; } struct b { } struct c { b* m; a* n; d* o; } struct d { d* n; c* p; }")
	for i, f := range []struct {
		owner  int
		name   string
		target int
	}{{0, "n", 2}, {0, "m", 0}, {2, "m", 1}, {2, "n", 0}, {2, "o", 3}, {3, "n", 3}, {3, "p", 2}} {
		what := strconv.Itoa(f.owner) + " " + f.name
		hold(t, "Field "+what, one(x.Field(f.owner, f.name)), named{0, i, true})
		hold(t, "Fields "+what, x.Fields()[i], api.Field{Owner: f.owner, Target: f.target})
	}
	hold(t, "how many Fields", len(x.Fields()), 7)
	for _, name := range []string{"n", "m", "o", "p"} {
		hold(t, "a Field of the struct without", one(x.Field(1, name)), named{})
	}
	hold(t, "a Field of another struct", one(x.Field(0, "o")), named{})
	hold(t, "a Field of another struct", one(x.Field(3, "m")), named{})
}

// Globals that are pointers, and globals that are not, are counted each by themselves.
func TestGlobalsOfBothKinds(t *testing.T) {
	for mask := range 1 << 7 {
		var l []api.Decl
		for i := range 7 {
			d := api.Decl{Name: "g" + strconv.Itoa(i)}
			if mask>>i&1 == 1 {
				d.Type = []string{"a", "b"}[i%2]
			}
			l = append(l, d)
		}
		x := holdRight(t, "globals", api.Program{Structs: []api.Struct{{Name: "a"}, {Name: "b"}}, Globals: l})
		pointers, ints := 0, 0
		for i, d := range l {
			if d.Type == "" {
				hold(t, d.Name, two(x.Global(d.Name)), named{-1, ints, true})
				ints++
			} else {
				hold(t, d.Name, two(x.Global(d.Name)), named{i % 2, pointers, true})
				pointers++
			}
		}
	}
}

// One name that is a struct's, a field's, a global's and a procedure's leads to each of these.
func TestOneNameOfAll(t *testing.T) {
	x := table(t, "struct b { } struct a { a* b; b* a; } int i; int a; void b() { int i; } void p(int i) { } void a(int a) { }")
	hold(t, "Struct", one(x.Struct("a")), named{0, 1, true})
	hold(t, "Type", one(x.Type("a")), named{0, 1, true})
	hold(t, "Field", one(x.Field(1, "a")), named{0, 1, true})
	hold(t, "Global", two(x.Global("a")), named{-1, 1, true})
	hold(t, "Proc", one(x.Proc("a")), named{0, 2, true})
	hold(t, "Field of b", one(x.Field(1, "b")), named{0, 0, true})
	hold(t, "Global b", two(x.Global("b")), named{})
	hold(t, "Proc i", one(x.Proc("i")), named{})
}

// A struct, a field, a global and a procedure may have the empty name; the empty Type is Int all the same.
func TestTheEmptyName(t *testing.T) {
	p := api.Program{
		Structs: []api.Struct{{Name: "s"}, {Fields: []api.Decl{{Type: "s", Name: "n"}, {Type: "s"}}}},
		Globals: []api.Decl{{Type: "s", Name: "x"}, {Name: "i"}, {}},
		Procs:   []api.Proc{{Name: "p"}, {}},
	}
	x := holdRight(t, "empty names", p)
	hold(t, "Struct", one(x.Struct("")), named{0, 1, true})
	hold(t, "Type", one(x.Type("")), named{0, -1, true})
	hold(t, "Field", one(x.Field(1, "")), named{0, 1, true})
	hold(t, "Field of another", one(x.Field(0, "")), named{})
	hold(t, "Global", two(x.Global("")), named{-1, 1, true})
	hold(t, "Proc", one(x.Proc("")), named{0, 1, true})
	x = table(t, ordinary)
	hold(t, "Struct of none", one(x.Struct("")), named{})
	hold(t, "Field of none", one(x.Field(0, "")), named{})
	hold(t, "Global of none", two(x.Global("")), named{})
	hold(t, "Proc of none", one(x.Proc("")), named{})
}

// Of an owner and a name that are told apart only where one ends and the other begins.
func TestFieldsThatLookAlike(t *testing.T) {
	p := api.Program{}
	for i := range 8 {
		name := strconv.Itoa(i)
		p.Structs = append(p.Structs, api.Struct{Name: name, Fields: []api.Decl{{Type: "0", Name: strconv.Itoa(7-i) + name}}})
	}
	x := holdRight(t, "fields named by numbers", p)
	hold(t, "Field 1, 61", one(x.Field(1, "61")), named{0, 1, true})
	hold(t, "Field 16, 1", one(x.Field(16, "1")), named{})
	hold(t, "Field 6, 1", one(x.Field(6, "1")), named{})
	hold(t, "Field 1, 16", one(x.Field(1, "16")), named{})
	hold(t, "Field 6, 16", one(x.Field(6, "16")), named{0, 6, true})
}

func TestOwnersThatAreNone(t *testing.T) {
	x := table(t, "struct a { a* n; } struct b { a* n; a* m; }")
	for _, owner := range []int{-1, -2, 2, 3, 8, 1 << 8, 1 << 16, 1 << 32, 1<<32 + 1, -1 << 63, 1<<63 - 1} {
		for _, name := range []string{"n", "m", ""} {
			hold(t, "Field of "+strconv.Itoa(owner), one(x.Field(owner, name)), named{})
		}
	}
}

// The tables of programs without names have but the empty Type.
func TestTableOfNothing(t *testing.T) {
	empty := api.Program{Structs: []api.Struct{}, Globals: []api.Decl{}, Procs: []api.Proc{}}
	for _, p := range []api.Program{{}, empty} {
		x := holdRight(t, "nothing", p)
		want := nothing(someNames())
		want.of["Type "] = named{0, -1, true}
		compare(t, "nothing", told(x, someNames()), want)
	}
}

// R5: a table that no call made.
func TestTableThatNoCallMade(t *testing.T) {
	var none *scope.Table
	for what, x := range map[string]*scope.Table{"nil": none, "zero": {}, "new": new(scope.Table)} {
		compare(t, what, told(x, someNames()), nothing(someNames()))
		hold(t, what+": Type of none", one(x.Type("")), named{})
		hold(t, what+": Structs", x.Structs(), 0)
		hold(t, what+": Fields", len(x.Fields()), 0)
		hold(t, what+": Struct", one(x.Struct("a")), named{})
		hold(t, what+": Field", one(x.Field(0, "a")), named{})
		hold(t, what+": Field of Int", one(x.Field(scope.Int, "")), named{})
		hold(t, what+": Global", two(x.Global("")), named{})
		hold(t, what+": Proc", one(x.Proc("")), named{})
	}
}

// P8.3: the things of each kind have names that lead to them alone, numbered from 0 on.
func TestEachNameLeadsToOneThing(t *testing.T) {
	text := many(4, "struct s% { s0* n; s3* m; } ") + many(8, "int i%; s1* x%; ") + many(16, "void p%(int a) { int b; } ")
	p, _ := read(t, text)
	x := holdRight(t, "many names", p)
	got := map[string][]int{}
	lead := func(what string, number int, found bool) {
		if found {
			got[what] = append(got[what], number)
		}
	}
	for _, name := range namesOf(p) {
		number, found := x.Struct(name)
		lead("structs", number, found)
		number, found = x.Proc(name)
		lead("procedures", number, found)
		for owner := range x.Structs() {
			number, found = x.Field(owner, name)
			lead("fields", number, found)
		}
		kind, number, found := x.Global(name)
		lead("globals of type "+strconv.Itoa(kind), number, found)
	}
	for what, count := range map[string]int{"structs": 4, "fields": 8, "globals of type -1": 8, "globals of type 1": 8, "procedures": 16} {
		l := got[what]
		slices.Sort(l)
		if len(l) != count || l[0] != 0 || l[count-1] != count-1 || len(slices.Compact(l)) != count {
			t.Errorf("%s: %v, want all numbers below %d", what, l, count)
		}
	}
	again := holdRight(t, "many names", p)
	compare(t, "asked again", told(x, namesOf(p)), told(x, namesOf(p)))
	compare(t, "built again", told(again, namesOf(p)), told(x, namesOf(p)))
}
