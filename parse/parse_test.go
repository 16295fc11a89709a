package parse_test

import (
	"fmt"
	"strings"
	"testing"

	"umbral/api"
	"umbral/parse"
)

// show is a tree as a text; nil and empty lists are the same in it.
func show(x any) string { return fmt.Sprintf("%+v", x) }

// short is a text that one can read, however long it is.
func short(s string) string {
	if len(s) > 300 {
		return fmt.Sprintf("%q..", s[:300])
	}
	return fmt.Sprintf("%q", s)
}

// call is one of the two calls, with what it is held against.
type call struct {
	name string
	of   func(src string) (any, int, api.Errno)
	zero string
	model
}

func program(src string) (any, int, api.Errno) { return anyOf(parse.Program(src)) }

func stmts(src string) (any, int, api.Errno) { return anyOf(parse.Stmts(src)) }

func anyOf[T any](tree T, at int, err api.Errno) (any, int, api.Errno) { return tree, at, err }

var (
	programs = call{"Program", program, show(api.Program{}), ofProgram}
	lists    = call{"Stmts", stmts, show([]api.Stmt{}), ofStmts}
)

func both() []call { return []call{programs, lists} }

// fails holds the place and the error against what they are to be; with an error all else is zero.
func (c call) fails(t *testing.T, src string, at int, err api.Errno) {
	t.Helper()
	tree, gotAt, gotErr := c.of(src)
	if gotAt != at || gotErr != err {
		t.Errorf("%s(%s): %d, %v, want %d, %v", c.name, short(src), gotAt, gotErr, at, err)
	}
	if gotErr != api.OK && show(tree) != c.zero {
		t.Errorf("%s(%s): %v, and a tree: %+v", c.name, short(src), gotErr, tree)
	}
}

// judged holds a text's place and error against those of the model.
func (c call) judged(t *testing.T, src string) api.Errno {
	t.Helper()
	at, err := c.wrong(src)
	c.fails(t, src, at, err)
	return err
}

func (c call) passes(t *testing.T, src string) {
	t.Helper()
	c.fails(t, src, 0, api.OK)
}

// marked takes the one @ out of a text, and tells its place.
func marked(src string) (string, int) {
	return strings.Replace(src, "@", "", 1), strings.Index(src, "@")
}

// failsAt is fails, at the place of the @.
func (c call) failsAt(t *testing.T, src string, err api.Errno) {
	t.Helper()
	text, at := marked(src)
	c.fails(t, text, at, err)
}

// is holds the tree of src against want.
func (c call) is(t *testing.T, src string, want any) {
	t.Helper()
	got, at, err := c.of(src)
	if show(got) != show(want) || at != 0 || err != api.OK {
		t.Errorf("%s(%s): %d, %v\n%+v, want\n%+v", c.name, short(src), at, err, got, want)
	}
}

func name(s string, at int) api.Path { return api.Path{Name: s, At: at} }

func way(s string, at int) api.Value {
	return api.Value{Kind: api.Way, At: at, Path: name(s, at)}
}

func number(n, at int) api.Value {
	return api.Value{Kind: api.Number, At: at, Left: api.Term{N: n, At: at}}
}

// TestExamples: P6.1, P6.2.
func TestExamples(t *testing.T) {
	lists.is(t, "x = y->n;", []api.Stmt{{Kind: api.Set, Place: name("x", 0), Value: api.Value{
		Kind: api.Way, At: 4, Path: api.Path{Name: "y", At: 4, Hops: []api.Hop{{Name: "n", At: 5}}}}}})
	lists.failsAt(t, "if (x == null) @x = y;", api.ErrSyntax)
}

// TestNothing: P6.1, P6.2, of texts without signs.
func TestNothing(t *testing.T) {
	for _, src := range []string{"", " ", "\t\r\n", "//", "// x = y;", "//\n", " // }\n\n//{"} {
		programs.is(t, src, api.Program{})
		lists.is(t, src, []api.Stmt{})
	}
}

// TestProgram: P6.1, of lists of their own, in order, and of places.
func TestProgram(t *testing.T) {
	src := "int i; struct t { t* n; u *m; } void p(t* a, int k) { u* b; int c; ; } t * x; struct u{} void main(){} "
	programs.is(t, src, api.Program{
		Structs: []api.Struct{
			{Name: "t", At: 14, Fields: []api.Decl{{Type: "t", Name: "n", At: 21}, {Type: "u", Name: "m", At: 27}}},
			{Name: "u", At: 85},
		},
		Globals: []api.Decl{{Name: "i", At: 4}, {Type: "t", Name: "x", At: 75}},
		Procs: []api.Proc{
			{Name: "p", At: 37, End: 69,
				Params: []api.Decl{{Type: "t", Name: "a", At: 42}, {Name: "k", At: 49}},
				Locals: []api.Decl{{Type: "u", Name: "b", At: 57}, {Name: "c", At: 64}},
				Body:   []api.Stmt{{At: 67}}},
			{Name: "main", At: 94, End: 101},
		},
	})
	programs.is(t, "void p() { {} }", api.Program{Procs: []api.Proc{{Name: "p", At: 5, End: 14, Body: []api.Stmt{{Kind: api.Block, At: 11}}}}})
}

// TestValues: P6.2, of all kinds of values.
func TestValues(t *testing.T) {
	path := api.Path{Name: "y", At: 4, Hops: []api.Hop{{Name: "n", At: 6}, {Name: "m", At: 9}}}
	all := map[string]api.Value{
		"null":        {Kind: api.Null, At: 4},
		"new t":       {Kind: api.Fresh, At: 4, Type: "t"},
		"input":       {Kind: api.Input, At: 4},
		"y":           way("y", 4),
		"y ->n->\nm":  {Kind: api.Way, At: 4, Path: path},
		"0":           number(0, 4),
		"0042":        number(42, 4),
		"999999999":   number(999999999, 4),
		"y + 1":       {Kind: api.Plus, At: 4, Left: api.Term{Name: "y", At: 4}, Right: api.Term{N: 1, At: 8}},
		"2-y":         {Kind: api.Minus, At: 4, Left: api.Term{N: 2, At: 4}, Right: api.Term{Name: "y", At: 6}},
		"y - z":       {Kind: api.Minus, At: 4, Left: api.Term{Name: "y", At: 4}, Right: api.Term{Name: "z", At: 8}},
		"3//\n+//\n4": {Kind: api.Plus, At: 4, Left: api.Term{N: 3, At: 4}, Right: api.Term{N: 4, At: 12}},
	}
	for src, want := range all {
		lists.is(t, "x = "+src+";", []api.Stmt{{Kind: api.Set, Place: name("x", 0), Value: want}})
	}
	for _, src := range []string{"@", "null@+ 1", "1 + @null", "input@+ 1", "new @null", "new t@->n", "new t@+ 1", "y->n @+ 1", "1 + y@->n",
		"1@->n", "1 + 2 @+ 3", "@- 1", "@+", "1 + @", "1 @2", "y @z", "@?", "y @== z", "@(y)", "new @1", "y@(z)", "@free", "y->@1", "y->@null"} {
		lists.failsAt(t, "x = "+src+";", api.ErrSyntax)
	}
}

// TestConds: P6.2, of all kinds of conditions.
func TestConds(t *testing.T) {
	path := api.Path{Name: "z", At: 12, Hops: []api.Hop{{Name: "n", At: 13}}}
	all := map[string]api.Cond{
		"?":            {Kind: api.Choice, At: 7},
		"x == y":       {Kind: api.Same, At: 7, Left: way("x", 7), Right: way("y", 12)},
		"x != z->n":    {Kind: api.Other, At: 7, Left: way("x", 7), Right: api.Value{Kind: api.Way, At: 12, Path: path}},
		"1<2":          {Kind: api.Less, At: 7, Left: number(1, 7), Right: number(2, 9)},
		"x>=5":         {Kind: api.NotLess, At: 7, Left: way("x", 7), Right: number(5, 10)},
		"null == null": {Kind: api.Same, At: 7, Left: api.Value{At: 7}, Right: api.Value{At: 15}},
	}
	for src, want := range all {
		lists.is(t, "if    ("+src+"){}", []api.Stmt{{Kind: api.If, Cond: want}})
		lists.is(t, "while ("+src+"){}", []api.Stmt{{Kind: api.While, Cond: want}})
	}
	for _, src := range []string{"@", "? @?", "? @== x", "x @", "x @= y", "x @- y", "x == @", "x == @?", "x < y @< z", "@input == x", "@new t == x",
		"x @+ y == z", "x == y @+ 1", "@(x == y)", "@== x", "x == @-1", "x <@= y", "x < @>= y", "x == @== y", "null@->n == x", "x == 1@->n"} {
		lists.failsAt(t, "if ("+src+") { }", api.ErrSyntax)
		lists.failsAt(t, "while ("+src+") { }", api.ErrSyntax)
	}
}

// TestStmts: P6.2, of all kinds of statements; what a kind does not name stays zero.
func TestStmts(t *testing.T) {
	long := api.Path{Name: "x", At: 6, Hops: []api.Hop{{Name: "n", At: 8}, {Name: "m", At: 11}}}
	null := api.Value{Kind: api.Null, At: 5}
	all := map[string]api.Stmt{
		";":                  {Kind: api.Skip},
		"x=3;":               {Kind: api.Set, Place: name("x", 0), Value: number(3, 2)},
		"free( x ->n->m ) ;": {Kind: api.Free, Place: long},
		"p();":               {Kind: api.Call, Name: "p"},
		"p(x);":              {Kind: api.Call, Name: "p", Args: []api.Value{way("x", 2)}},
		"p(1, null,x);":      {Kind: api.Call, Name: "p", Args: []api.Value{number(1, 2), null, way("x", 10)}},
		"{}":                 {Kind: api.Block},
		"{;{};}":             {Kind: api.Block, Then: []api.Stmt{{At: 1}, {Kind: api.Block, At: 2}, {At: 4}}},
		"if(?){}":            {Kind: api.If, Cond: api.Cond{At: 3}},
		"if(?){;}":           {Kind: api.If, Cond: api.Cond{At: 3}, Then: []api.Stmt{{At: 6}}},
		"if(?){}else{}":      {Kind: api.If, Cond: api.Cond{At: 3}, Both: true},
		"if(?){;}else{; ;}":  {Kind: api.If, Cond: api.Cond{At: 3}, Both: true, Then: []api.Stmt{{At: 6}}, Else: []api.Stmt{{At: 13}, {At: 15}}},
		"while(?){;}":        {Kind: api.While, Cond: api.Cond{At: 6}, Then: []api.Stmt{{At: 9}}},
	}
	for src, want := range all {
		lists.is(t, src, []api.Stmt{want})
		body, _, _ := parse.Stmts("         " + src)
		programs.is(t, "void p(){"+src+"}", api.Program{Procs: []api.Proc{{Name: "p", At: 5, End: 9 + len(src), Body: body}}})
	}
	lists.is(t, "if(?){}{}", []api.Stmt{{Kind: api.If, Cond: api.Cond{At: 3}}, {Kind: api.Block, At: 7}})
	lists.is(t, ";;\n;", []api.Stmt{{}, {At: 1}, {At: 3}})
}

// TestWrongStmts: P6.2, P6.3.
func TestWrongStmts(t *testing.T) {
	for _, src := range []string{
		"x@", "x@;", "x @x = y;", "x->@= y;", "x->n@;", "x = y@", "x->n@();", "x->@;", "@1 = x;", "@null = x;", "@= x;", "@-> n;", "@, ;", "@) ;", "@? ;",
		"free @x;", "free(@);", "free(x@;", "free(x)@", "free(@null);", "free(x@, y);", "free(x @+ 1);", "free(@1);", "free@",
		"p(@", "p(x@", "p(x @y);", "p(x,@);", "p(@, x);", "p(@input);", "p(@new t);", "p(x @+ 1);", "p(@?);", "p()@", "p()@->n;", "p(@(p));", "p(p@());",
		"{@", "{;@", "if@", "if @{ }", "if (x == y) @;", "if (?) {} else @;", "if (?) {} else @if (?) {}", "@else {}", "if (?) {}; @else {}",
		"if (?) {} else {} @else {}", "while (?) {} @else {}", "while @? {}", "while (?) @x = y;", "while (?) {@", "if (?) {} else {@", "if (?) {} else@",
		"@int i;", "x @* y;", "{ x @* y; }", "@struct t { }", "@void p() { }", "@null;", "@input;", "@new t;",
	} {
		lists.failsAt(t, src, api.ErrSyntax)
		programs.failsAt(t, "void p() { ; "+src, api.ErrSyntax)
	}
	for _, src := range []string{"@}", "{}@}", "x = y;@}", "{ ; } ; @} {", "if (?) { } else { } @}"} {
		lists.failsAt(t, src, api.ErrSyntax)
	}
}

// TestWrongPrograms: P6.1, P6.3.
func TestWrongPrograms(t *testing.T) {
	for _, src := range []string{
		"@;", "@{ }", "@}", "x @= y;", "x@;", "x @y;", "@*", "x *@;", "x * @1;", "x * y@", "x * y@, z;", "x * y @= null;", "x *@* y;", "p@() { }",
		"int@;", "int @* x;", "int x@", "int x@, y;", "int @int;", "@null * x;", "@if (?) { }", "@while (?) { }", "@free(x);", "p@();", "@1;", "@?",
		"struct@", "struct @{ }", "struct t@;", "struct t {@", "struct t { @int n; }", "struct t { t @n; }", "struct t { t *@; }", "struct t { t * n @}",
		"struct t { @; }", "struct t { t * n; @{ } }", "struct t { }@;", "struct t { t * n@, t * m; }", "struct @struct { }",
		"void@", "void @() { }", "void p@{ }", "void p(@{ }", "void p()@", "void p()@;", "void p() {@", "void p() { }@;", "void p() { }@}", "void @void() { }",
		"void p(@,) { }", "void p(int@) { }", "void p(int x @y) { }", "void p(int x,@) { }", "void p(x@) { }", "void p(x * @) { }", "void p(x @y) { }",
		"void p(x * y@;) { }", "void p(@null) { }", "void p(int @* x) { }", "void p() { int@; }", "void p() { t * x @}", "void p() { t * x @= null; }",
		"void p() { @void q() { } }", "void p() { @struct t { } }",
	} {
		programs.failsAt(t, src, api.ErrSyntax)
		programs.failsAt(t, "int i; struct t { t * n; } void q() { ; } "+src, api.ErrSyntax)
	}
}

// TestDecls: P6.1: a name with a star behind it begins a local, as long as no statement stood.
func TestDecls(t *testing.T) {
	for _, src := range []string{"t * x;", "t * x; ;", "int i; t * x; int j; x = null;", "t * t; t->t = t;", "int i; t(); t = t;"} {
		programs.passes(t, "void p() { "+src+" }")
	}
	for _, src := range []string{"; t @* x;", "x = y; t @* x;", "{ t @* x; }", "t * x; ; x @* y;", "{} @int i;", "{ @int i; }", "if (?) { t @* x; }", "p(); @int i;",
		"t * x; while (?) { @int i; }", "t * x; x @y;"} {
		programs.failsAt(t, "void q() { t * x; ; } void p() { "+src+" }", api.ErrSyntax)
	}
	got, _, err := parse.Program("void p() { t * x; int i; t = x; }")
	if err != api.OK || len(got.Procs[0].Locals) != 2 || len(got.Procs[0].Body) != 1 {
		t.Errorf("locals: %+v, %v", got, err)
	}
}
