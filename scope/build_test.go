package scope_test

import (
	"strconv"
	"strings"
	"testing"

	"umbral/api"
	"umbral/parse"
	"umbral/scope"
)

// read tells the program of a text, and the place of the mark # in it, which is left out.
func read(t *testing.T, text string) (api.Program, int) {
	t.Helper()
	at := strings.IndexByte(text, '#')
	p, _, err := parse.Program(strings.Replace(text, "#", "", 1))
	if err != api.OK {
		t.Fatalf("%q is no program: %v", text, err)
	}
	return p, at
}

// holdError holds that Build tells no table, this place and this error.
func holdError(t *testing.T, what string, p api.Program, at int, err api.Errno) {
	t.Helper()
	if table, got := holdBuild(t, what, p); table != nil || got != (fault{at, err}) {
		t.Errorf("Build of %s: table %v, %v, want none, %d, %v", what, table != nil, got, at, err)
	}
}

// holdRight holds that Build tells a table, 0 and OK.
func holdRight(t *testing.T, what string, p api.Program) *scope.Table {
	t.Helper()
	table, got := holdBuild(t, what, p)
	if table == nil || got != (fault{0, api.OK}) {
		t.Fatalf("Build of %s: table %v, %v, want one, 0, ok", what, table != nil, got)
	}
	return table
}

// many writes count texts, in each of which % is its number.
func many(count int, text string) string {
	all := ""
	for i := range count {
		all += strings.ReplaceAll(text, "%", strconv.Itoa(i))
	}
	return all
}

// list is many with commas between.
func list(count int, text string) string { return strings.Trim(many(count, text+","), ",") }

const ordinary = `struct node { node* next; item* first; } struct item { }
node* x; int i; item* y; int j; node* z;
void add(node* a, int n) { node* b; b = a; }
void main() { int k; x = new node; while (?) { add(x, 1); } }`

func TestBuildOfOrdinaryOnes(t *testing.T) {
	for _, text := range []string{
		"",
		"void main() { }",
		"int i;",
		"struct a { }",
		"struct a { a* n; }",
		"struct a { b* n; } struct b { a* n; }",
		"struct a { c* n; b* m; } struct b { c* n; } struct c { }",
		"struct a { a* n; } a* x; a* y; int i; void main() { x = y; }",
		"void p(int a) { int b; } void q(int a) { int b; } int b; int a;",
		// the names of other programs' things are not asked for
		"void main() { x = y; free(z); f(); u = new v; }",
		ordinary,
	} {
		p, _ := read(t, text)
		holdRight(t, text, p)
	}
}

func TestBuildOfNames(t *testing.T) {
	for _, c := range []struct {
		what string
		text string
	}{
		{"a field's name in two structs", "struct a { a* n; b* m; } struct b { b* n; a* m; }"},
		{"a field's name that is a struct's", "struct a { a* a; b* b; } struct b { a* a; }"},
		{"a global's name that is a struct's, a field's, a procedure's", "struct a { a* n; } a* a; int n; int p; void p() { }"},
		{"a local's that is a global's, a struct's, a field's, a procedure's", "struct a { a* n; } int x; void p() { int x; int a; int n; int p; }"},
		{"a parameter's that is a global's, a struct's, a field's, a procedure's", "struct a { a* n; } int x; void p(int x, a* a, int n, a* p) { }"},
		{"a procedure's that is a struct's, a field's", "struct a { a* n; } void a() { } void n() { }"},
		{"those of two procedures that are alike", "void p(int x) { int y; } void q(int x) { int y; } void r(int y) { int x; }"},
	} {
		p, _ := read(t, c.text)
		holdRight(t, c.what, p)
	}
}

func TestBuildOfOneFault(t *testing.T) {
	for _, c := range []struct {
		what string
		text string
		err  api.Errno
	}{
		{"two structs alike", "struct a { } struct #a { }", api.ErrTwice},
		{"structs alike, with one between", "struct a { } struct b { } struct #a { }", api.ErrTwice},
		{"the last two of structs", many(7, "struct a% { } ") + "struct #a6 { }", api.ErrTwice},
		{"nine structs", many(8, "struct a% { } ") + "struct #b { }", api.ErrMany},
		{"ten structs", many(8, "struct a% { } ") + "struct #b { } struct c { }", api.ErrMany},

		{"two fields alike", "struct a { a* n; a* #n; }", api.ErrTwice},
		{"two fields alike, of two Types", "struct a { a* n; b* #n; } struct b { }", api.ErrTwice},
		{"two fields alike, of the last struct", "struct a { a* n; } struct b { a* n; a* m; a* #n; }", api.ErrTwice},
		{"a field of no Type", "struct a { b* #n; }", api.ErrNone},
		{"a field of a global's name", "struct a { b* #n; } int b; void b() { }", api.ErrNone},
		{"a field of a field's name", "struct a { a* n; n* #m; }", api.ErrNone},
		{"a field of no Type behind others", "struct a { a* n; } struct b { a* n; b* m; c* #o; }", api.ErrNone},
		{"nine fields of one", "struct a { " + many(8, "a* n%; ") + "a* #m; }", api.ErrMany},
		{"nine fields of one, ahead of one without", "struct a { " + many(8, "a* n%; ") + "a* #m; a* o; } struct b { }", api.ErrMany},
		{"nine fields of the last one", "struct a { } struct b { " + many(8, "a* n%; ") + "a* #m; }", api.ErrMany},
		{"nine fields of three", "struct a { a* n; a* m; a* o; } struct b { a* n; a* m; a* o; } struct c { a* n; a* m; a* #o; }", api.ErrMany},
		{"nine fields, the last one alone", "struct a { " + many(8, "a* n%; ") + "} struct b { a* #n; }", api.ErrMany},
		{"nine fields of eight", many(7, "struct a% { a0* n; } ") + "struct b { b* n; b* #m; }", api.ErrMany},

		{"two globals alike", "int i; int #i;", api.ErrTwice},
		{"two globals alike, of two Types", "struct a { } a* i; int j; int #i;", api.ErrTwice},
		{"a global of no Type", "b* #x;", api.ErrNone},
		{"a global of a procedure's name", "int i; p* #x; void p() { }", api.ErrNone},
		{"a global of a global's name", "struct a { a* n; } a* i; i* #x;", api.ErrNone},
		{"a global of a field's name", "struct a { a* n; } n* #x;", api.ErrNone},
		{"seventeen numbers", many(16, "int i%; ") + "int #j;", api.ErrMany},
		{"seventeen pointers", "struct a { } " + many(16, "a* i%; ") + "a* #j;", api.ErrMany},
		{"seventeen globals, of two Types", "struct a { } " + many(8, "int i%; a* p%; ") + "a* #j; int k;", api.ErrMany},

		{"two procedures alike", "void p() { } void #p() { }", api.ErrTwice},
		{"two procedures alike, with one between", "void p(int i) { } void main() { } void #p() { int i; }", api.ErrTwice},
		{"seventeen procedures", many(16, "void p%() { } ") + "void #q() { }", api.ErrMany},
		{"eighteen procedures", many(16, "void p%() { } ") + "void #q() { } void r() { }", api.ErrMany},

		{"two parameters alike", "void p(int a, int #a) { }", api.ErrTwice},
		{"two parameters alike, of the last one", "void p(int a) { } void q(int b, int c, int #b) { }", api.ErrTwice},
		{"a parameter of no Type", "void p(int a, t* #b) { }", api.ErrNone},
		{"seventeen parameters", "void p(" + list(16, "int a%") + ", int #b) { }", api.ErrMany},
		{"two locals alike", "void p() { int a; int #a; }", api.ErrTwice},
		{"two locals alike, of two Types", "struct t { } void p() { t* a; int b; int #a; }", api.ErrTwice},
		{"a local of no Type", "struct u { } void p(u* a) { u* b; t* #c; }", api.ErrNone},
		{"seventeen locals", "void p() { " + many(16, "int a%; ") + "int #b; }", api.ErrMany},
		{"a local that is a parameter", "void p(int a, int b) { int c; int #a; }", api.ErrTwice},
		{"a local that is the last parameter", "struct t { } void p(int a, int b) { t* #b; }", api.ErrTwice},
	} {
		p, at := read(t, c.text)
		holdError(t, c.what, p, at, c.err)
	}
}

// A text has no field without a Type.
func TestBuildOfFieldsWithoutType(t *testing.T) {
	p := api.Program{Structs: []api.Struct{
		{Name: "a", At: 1, Fields: []api.Decl{{Type: "b", Name: "n", At: 2}}},
		{Name: "b", At: 3, Fields: []api.Decl{{Type: "a", Name: "n", At: 4}, {Name: "m", At: 5}}},
	}}
	holdError(t, "a field without Type", p, 5, api.ErrType)
	p.Structs[0].Fields[0].Type = ""
	holdError(t, "two fields without Type", p, 2, api.ErrType)
	p.Structs[1].Name = ""
	holdError(t, "a field without Type, beside a struct without name", p, 2, api.ErrType)
}

func TestBuildAtTheCaps(t *testing.T) {
	for _, c := range []struct {
		what string
		text string
	}{
		{"eight structs", many(8, "struct a% { } ")},
		{"eight fields of one", "struct a { " + many(8, "a* n%; ") + "} struct b { }"},
		{"eight fields of the last one", "struct a { } struct b { " + many(8, "a* n%; ") + "}"},
		{"eight fields of two", "struct a { " + many(5, "a* n%; ") + "} struct b { " + many(3, "a* n%; ") + "}"},
		{"eight fields of eight", many(8, "struct a% { a7* n; } ")},
		{"sixteen numbers", many(16, "int i%; ")},
		{"sixteen pointers", "struct a { } " + many(16, "a* i%; ")},
		{"sixteen globals, of two Types", "struct a { } " + many(8, "a* p%; int i%; ")},
		{"sixteen procedures", many(16, "void p%() { } ")},
		{"sixteen parameters", "void p(" + list(16, "int a%") + ") { }"},
		{"sixteen locals of sixteen", many(16, "void p%() { "+many(16, "int a%; ")+"} ")},
		{"all caps at once", many(8, "struct s% { s7* n; } ") + many(8, "s0* x%; int i%; ") +
			many(16, "void p%("+list(8, "s1* a%")+") { "+many(8, "int b%; ")+"} ")},
	} {
		p, _ := read(t, c.text)
		holdRight(t, c.what, p)
	}
}

// variables are count numbers of unlike names, from first on, and places.
func variables(first, count int) []api.Decl {
	var l []api.Decl
	for i := first; i < first+count; i++ {
		l = append(l, api.Decl{Name: "v" + strconv.Itoa(i), At: 100 + i})
	}
	return l
}

// Sixteen and seventeen parameters and locals, in each way of parting them.
func TestBuildOfOneListOfTwo(t *testing.T) {
	for count := range 20 {
		for params := range count + 1 {
			what := strconv.Itoa(params) + " parameters of " + strconv.Itoa(count)
			p := api.Program{Procs: []api.Proc{{Name: "p", Params: variables(0, params), Locals: variables(params, count-params)}}}
			if count <= 16 {
				holdRight(t, what, p)
			} else {
				holdError(t, what, p, 116, api.ErrMany)
			}
			again := api.Program{Procs: []api.Proc{{Name: "q", Locals: variables(0, 16)}, p.Procs[0]}}
			holdBuild(t, what+", behind one of sixteen", again)
		}
	}
}

// A name that stands twice in one list, at each two places, however it is parted.
func TestBuildOfEachTwo(t *testing.T) {
	const count = 6
	for second := range count {
		for first := range second {
			l := variables(0, count)
			l[second].Name = l[first].Name
			holdError(t, "globals", api.Program{Globals: l}, 100+second, api.ErrTwice)
			for params := range count + 1 {
				p := api.Program{Procs: []api.Proc{{Name: "p", Params: l[:params], Locals: l[params:]}}}
				holdError(t, "parameters and locals", p, 100+second, api.ErrTwice)
			}
			var structs []api.Struct
			var procs []api.Proc
			for _, d := range l {
				structs = append(structs, api.Struct{Name: d.Name, At: d.At})
				procs = append(procs, api.Proc{Name: d.Name, At: d.At})
			}
			holdError(t, "structs", api.Program{Structs: structs}, 100+second, api.ErrTwice)
			holdError(t, "procedures", api.Program{Procs: procs}, 100+second, api.ErrTwice)
			fields := variables(0, count)
			fields[second].Name = fields[first].Name
			for i := range fields {
				fields[i].Type = "t"
			}
			holdError(t, "fields", api.Program{Structs: []api.Struct{{Name: "t", Fields: fields}}}, 100+second, api.ErrTwice)
		}
	}
}

// Names that no text could have are names as others are.
func TestBuildOfOddNames(t *testing.T) {
	for _, name := range someNames() {
		s := api.Struct{Name: name, At: 1, Fields: []api.Decl{{Type: "ok", Name: name, At: 2}}}
		d := api.Decl{Name: name, At: 3}
		q := api.Proc{Name: name, At: 4, Params: []api.Decl{{Name: name, At: 5}}}
		p := api.Program{Structs: []api.Struct{s, {Name: "ok"}}, Globals: []api.Decl{d}, Procs: []api.Proc{q}}
		holdRight(t, strconv.Quote(name), p)
		again := twin(p)
		again.Structs = append(again.Structs, s)
		holdError(t, "structs named "+strconv.Quote(name), again, 1, api.ErrTwice)
		again = twin(p)
		again.Structs[0].Fields = append(again.Structs[0].Fields, s.Fields[0])
		holdError(t, "fields named "+strconv.Quote(name), again, 2, api.ErrTwice)
		again = twin(p)
		again.Globals = append(again.Globals, d)
		holdError(t, "globals named "+strconv.Quote(name), again, 3, api.ErrTwice)
		again = twin(p)
		again.Procs = append(again.Procs, q)
		holdError(t, "procedures named "+strconv.Quote(name), again, 4, api.ErrTwice)
		again = twin(p)
		again.Procs[0].Locals = []api.Decl{{Name: name, At: 6}}
		holdError(t, "a local and a parameter named "+strconv.Quote(name), again, 6, api.ErrTwice)
	}
}

// A Type that is an odd name leads to the struct of that name; the empty one leads to none.
func TestBuildOfOddTypes(t *testing.T) {
	for _, name := range someNames() {
		d := api.Decl{Type: name, Name: "v", At: 7}
		for _, structs := range [][]api.Struct{nil, {{Name: name}}} {
			isThere := name == "" || structs != nil
			for _, p := range []api.Program{
				{Structs: structs, Globals: []api.Decl{d}},
				{Structs: structs, Procs: []api.Proc{{Params: []api.Decl{d}}}},
				{Structs: structs, Procs: []api.Proc{{Locals: []api.Decl{d}}}},
			} {
				if isThere {
					holdRight(t, strconv.Quote(name), p)
				} else {
					holdError(t, strconv.Quote(name), p, 7, api.ErrNone)
				}
			}
		}
	}
}
