package scope_test

import (
	"strconv"
	"testing"

	"umbral/api"
)

// wound makes a program wrong; its part is where in the chapter's order that is asked for.
type wound struct {
	what string
	part int
	err  api.Errno
	add  func(p *api.Program)
}

// The parts, in the chapter's order.
const (
	ofStructs = iota
	ofFields
	ofGlobals
	ofProcs
)

func someDecls(count int, kind, name string) []api.Decl {
	var l []api.Decl
	for i := range count {
		l = append(l, api.Decl{Type: kind, Name: name + strconv.Itoa(i)})
	}
	return l
}

func addStruct(name string, fields ...api.Decl) func(p *api.Program) {
	return func(p *api.Program) { p.Structs = append(p.Structs, api.Struct{Name: name, Fields: fields}) }
}

func addGlobals(l ...api.Decl) func(p *api.Program) {
	return func(p *api.Program) { p.Globals = append(p.Globals, l...) }
}

func addProc(name string, params, locals []api.Decl) func(p *api.Program) {
	return func(p *api.Program) {
		p.Procs = append(p.Procs, api.Proc{Name: name, Params: params, Locals: locals})
	}
}

// sound is right, with one thing in each list.
func sound() api.Program {
	d := []api.Decl{{Type: "s", Name: "x"}}
	return api.Program{
		Structs: []api.Struct{{Name: "s", Fields: d}},
		Globals: []api.Decl{{Name: "x"}},
		Procs:   []api.Proc{{Name: "main", Params: d, Locals: []api.Decl{{Name: "y"}}}},
	}
}

func wounds() []wound {
	a, b, none := api.Decl{Name: "a"}, api.Decl{Name: "b"}, api.Decl{Type: "none", Name: "c"}
	field := api.Decl{Type: "s", Name: "x"}
	return []wound{
		{"nine structs", ofStructs, api.ErrMany, func(p *api.Program) {
			for i := range 9 {
				addStruct("many" + strconv.Itoa(i))(p)
			}
		}},
		{"two structs alike", ofStructs, api.ErrTwice, addStruct("s")},
		{"nine fields", ofFields, api.ErrMany, addStruct("m", someDecls(9, "s", "x")...)},
		{"two fields alike", ofFields, api.ErrTwice, addStruct("t", field, field)},
		{"a field without Type", ofFields, api.ErrType, addStruct("u", field, a)},
		{"a field of none", ofFields, api.ErrNone, addStruct("n", field, none)},
		{"seventeen globals", ofGlobals, api.ErrMany, addGlobals(someDecls(17, "", "m")...)},
		{"two globals alike", ofGlobals, api.ErrTwice, addGlobals(api.Decl{Type: "s", Name: "x"})},
		{"a global of none", ofGlobals, api.ErrNone, addGlobals(none)},
		{"seventeen procedures", ofProcs, api.ErrMany, func(p *api.Program) {
			for i := range 17 {
				addProc("many"+strconv.Itoa(i), nil, nil)(p)
			}
		}},
		{"two procedures alike", ofProcs, api.ErrTwice, addProc("main", nil, nil)},
		{"seventeen parameters", ofProcs, api.ErrMany, addProc("p", someDecls(17, "s", "m"), nil)},
		{"two parameters alike", ofProcs, api.ErrTwice, addProc("q", []api.Decl{a, b, a}, nil)},
		{"a parameter of none", ofProcs, api.ErrNone, addProc("r", []api.Decl{a, none}, nil)},
		{"seventeen locals", ofProcs, api.ErrMany, addProc("t", nil, someDecls(17, "", "m"))},
		{"two locals alike", ofProcs, api.ErrTwice, addProc("u", nil, []api.Decl{a, a})},
		{"a local that is a parameter", ofProcs, api.ErrTwice, addProc("v", []api.Decl{a}, []api.Decl{b, a})},
		{"a local of none", ofProcs, api.ErrNone, addProc("w", nil, []api.Decl{none})},
	}
}

// place gives all things places, each its own, in the order of the lists, or in the opposite one.
func place(p *api.Program, first, step int) {
	next := func(at *int) { *at, first = first, first+step }
	decls := func(l []api.Decl) []api.Decl {
		own := append([]api.Decl(nil), l...)
		for i := range own {
			next(&own[i].At)
		}
		return own
	}
	for i := range p.Structs {
		next(&p.Structs[i].At)
		p.Structs[i].Fields = decls(p.Structs[i].Fields)
	}
	p.Globals = decls(p.Globals)
	for i := range p.Procs {
		next(&p.Procs[i].At)
		next(&p.Procs[i].End)
		p.Procs[i].Params = decls(p.Procs[i].Params)
		p.Procs[i].Locals = decls(p.Procs[i].Locals)
	}
}

// holdFirst holds that the first fault counts, whatever the places are.
func holdFirst(t *testing.T, what string, p api.Program, err api.Errno) {
	t.Helper()
	for _, step := range []int{1, -1} {
		place(&p, 1000, step)
		all := faults(p)
		if len(all) == 0 || all[0].err != err {
			t.Fatalf("%s: faults %v, want %v first", what, all, err)
		}
		holdError(t, what, p, all[0].at, err)
	}
}

func TestBuildOfEachWound(t *testing.T) {
	p := sound()
	place(&p, 1, 1)
	holdRight(t, "a sound one", p)
	for _, w := range wounds() {
		p := sound()
		w.add(&p)
		holdFirst(t, w.what, p, w.err)
	}
}

// Two wounds, in both orders: the one whose part is first counts; of one part the one that stands first.
func TestBuildOfTwoWounds(t *testing.T) {
	for i, w := range wounds() {
		for j, v := range wounds() {
			if i == j {
				continue
			}
			p := sound()
			w.add(&p)
			v.add(&p)
			err := w.err
			if v.part < w.part {
				err = v.err
			}
			holdFirst(t, w.what+", and "+v.what, p, err)
		}
	}
}

// Of one thing ErrMany is ahead of ErrTwice, that ahead of ErrType, that ahead of ErrNone.
func TestBuildOfTwoFaultsOfOne(t *testing.T) {
	eight := many(8, "a* n%; ")
	for _, c := range []struct {
		what string
		text string
		err  api.Errno
	}{
		{"the ninth struct is one ahead", many(8, "struct a% { } ") + "struct #a0 { }", api.ErrMany},
		{"the ninth struct has wrong fields", many(8, "struct a% { } ") + "struct #b { z* n; z* n; }", api.ErrMany},
		{"the second of two structs has wrong fields", "struct a { } struct #a { z* n; z* n; }", api.ErrTwice},
		{"the first of two structs has wrong fields", "struct a { z* n; z* n; } struct #a { }", api.ErrTwice},
		{"the ninth field is one ahead", "struct a { " + eight + "a* #n0; }", api.ErrMany},
		{"the ninth field is of none", "struct a { " + eight + "z* #m; }", api.ErrMany},
		{"the ninth field is one ahead, of none", "struct a { " + eight + "z* #n0; }", api.ErrMany},
		{"the second of two fields is of none", "struct a { a* n; z* #n; }", api.ErrTwice},
		{"the first of two fields is of none", "struct a { z* #n; a* n; }", api.ErrNone},
		{"both of two fields are of none", "struct a { z* #n; z* n; }", api.ErrNone},
		{"the seventeenth global is one ahead", many(16, "int i%; ") + "int #i0;", api.ErrMany},
		{"the seventeenth global is of none", many(16, "int i%; ") + "z* #j;", api.ErrMany},
		{"the seventeenth global is one ahead, of none", many(16, "int i%; ") + "z* #i0;", api.ErrMany},
		{"the second of two globals is of none", "int i; z* #i;", api.ErrTwice},
		{"the first of two globals is of none", "z* #i; int i;", api.ErrNone},
		{"the seventeenth procedure is one ahead", many(16, "void p%() { } ") + "void #p0() { }", api.ErrMany},
		{"the seventeenth procedure has wrong locals", many(16, "void p%() { } ") + "void #q(z* a, int a) { }", api.ErrMany},
		{"the second of two procedures has wrong locals", "void p() { } void #p() { z* a; int a; }", api.ErrTwice},
		{"the seventeenth parameter is one ahead, of none", "void p(" + list(16, "int a%") + ", z* #a0) { }", api.ErrMany},
		{"the second of two parameters is of none", "void p(int a, z* #a) { }", api.ErrTwice},
		{"the first of two parameters is of none", "void p(z* #a, int a) { }", api.ErrNone},
		{"the seventeenth local is one ahead, of none", "void p() { " + many(16, "int a%; ") + "z* #a0; }", api.ErrMany},
		{"the seventeenth of one list is a parameter", "void p(int b) { " + many(15, "int a%; ") + "int #b; }", api.ErrMany},
		{"the sixteenth of one list is a parameter", "void p(int b) { " + many(14, "int a%; ") + "int #b; }", api.ErrTwice},
		{"a local is a parameter, and of none", "void p(int a) { z* #a; }", api.ErrTwice},
		{"a local is a parameter that is of none", "void p(z* #a) { int a; }", api.ErrNone},
	} {
		p, at := read(t, c.text)
		holdError(t, c.what, p, at, c.err)
	}
}

// What no text has: fields that are without Type, and wrong otherwise too.
func TestBuildOfTwoFaultsOfFields(t *testing.T) {
	for _, c := range []struct {
		what   string
		fields []api.Decl
		at     int
		err    api.Errno
	}{
		{"the ninth without Type", append(someDecls(8, "s", "n"), api.Decl{Name: "m", At: 9}), 9, api.ErrMany},
		{"the ninth without Type, that is one ahead", append(someDecls(8, "s", "n"), api.Decl{Name: "n0", At: 9}), 9, api.ErrMany},
		{"the second of two without Type", []api.Decl{{Type: "s", Name: "n", At: 1}, {Name: "n", At: 2}}, 2, api.ErrTwice},
		{"the first of two without Type", []api.Decl{{Name: "n", At: 1}, {Type: "s", Name: "n", At: 2}}, 1, api.ErrType},
		{"one of none behind one without Type", []api.Decl{{Name: "n", At: 1}, {Type: "z", Name: "m", At: 2}}, 1, api.ErrType},
		{"one without Type behind one of none", []api.Decl{{Type: "z", Name: "n", At: 1}, {Name: "m", At: 2}}, 1, api.ErrNone},
	} {
		for _, name := range []string{"s", ""} { // with and without a struct that has the empty name
			p := api.Program{Structs: []api.Struct{{Name: "s", At: 77, Fields: c.fields}}}
			if name == "" {
				p.Structs = append(p.Structs, api.Struct{Name: name, At: 78})
			}
			holdError(t, c.what, p, c.at, c.err)
		}
	}
}

// The first one of a list counts, of unlike errors too; and lists go one behind the other.
func TestBuildOfTwoPlaces(t *testing.T) {
	for _, c := range []struct {
		what string
		text string
		err  api.Errno
	}{
		{"structs alike ahead of too many", "struct a { } struct #a { } " + many(8, "struct b% { } "), api.ErrTwice},
		{"structs alike behind too many", many(8, "struct b% { } ") + "struct #a { } struct a { }", api.ErrMany},
		{"a wrong field ahead of structs alike", "struct a { z* n; } struct b { } struct #b { }", api.ErrTwice},
		{"a wrong field ahead of a ninth struct", "struct a { z* n; } " + many(7, "struct b% { } ") + "struct #c { }", api.ErrMany},
		{"wrong fields of two structs", "struct a { a* n; z* #n1; } struct b { b* n; b* n; }", api.ErrNone},
		{"wrong fields of two structs, the other way", "struct b { b* n; b* #n; } struct a { a* n; z* n1; }", api.ErrTwice},
		{"a wrong global ahead of a wrong field in the text", "z* x; int i; int i; struct a { z* #n; }", api.ErrNone},
		{"wrong locals ahead of all else in the text", "void p(z* a) { } z* x; struct a { z* n; } struct #a { }", api.ErrTwice},
		{"wrong locals ahead of a wrong global in the text", "void p(z* a) { } int x; int #x;", api.ErrTwice},
		{"a global of none ahead of the seventeenth", "z* #x; " + many(17, "int i%; "), api.ErrNone},
		{"the seventeenth global ahead of one of none", many(16, "int i%; ") + "int #j; z* x;", api.ErrMany},
		{"wrong locals ahead of procedures alike", "void p() { z* #a; } void p() { }", api.ErrNone},
		{"wrong locals ahead of a seventeenth procedure", "void q(int a, int #a) { } " + many(16, "void p%() { } "), api.ErrTwice},
		{"wrong locals behind procedures alike", "void p() { } void #p() { } void q(z* a) { }", api.ErrTwice},
		{"wrong locals of two procedures", "void p() { int a; int #a; } void q(z* a) { }", api.ErrTwice},
		{"a wrong parameter ahead of wrong locals", "void p(int a, z* #b) { int a; int a; }", api.ErrNone},
		{"wrong locals behind a wrong parameter", "void p(int a, int #a) { z* b; }", api.ErrTwice},
	} {
		p, at := read(t, c.text)
		holdError(t, c.what, p, at, c.err)
	}
}
