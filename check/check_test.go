package check_test

import (
	"slices"
	"strconv"
	"strings"
	"testing"

	"umbral/api"
	"umbral/check"
)

func TestExample(t *testing.T) {
	p, at := read(t, "int i; void main() { i = #null; }")
	holdWrong(t, "the example", p, at, api.ErrType)
}

// many writes count texts, in each of which % is its number.
func many(count int, text string) string {
	all := ""
	for i := range count {
		all += strings.ReplaceAll(text, "%", strconv.Itoa(i))
	}
	return all
}

// base are structs, globals and procedures for statements of all kinds.
const base = `struct a { a* s; b* o; } struct b { a* o; b* s; } struct c { }
int i; int j; a* x; a* u; b* y; c* z;
void none() { } void num(int n) { } void ptr(a* n) { } void two(b* n, int m) { } void more(int n, a* m, int o, b* p) { }
`

// within is base with these statements as main's.
func within(body string) string { return base + "void main() { " + body + " }" }

func TestCheckOfOrdinaryOnes(t *testing.T) {
	for _, text := range []string{
		"void main() { }",
		"void main() { ; { } }",
		"int i; void main() { i = 1; }",
		"void main() { int i; i = input; i = i; i = i + 1; i = 1 - i; i = i + i; i = 2 + 3; if (i < 3) { i = 0; } else { i = 9; } }",
		"struct a { } a* x; void main() { x = new a; free(x); x = null; while (x != null) { free(x); } }",
		"void p(int i) { i = 1; } void main() { p(7); }",
		"void p() { p(); q(); } void q() { p(); } void main() { q(); }",
		"struct main { main* main; } main* main; void main() { main = new main; main->main = main; }",
		base + "void main() { }",
		within("x = y->o; y = x->o; x->o->s->o = u; y->s->s = y; x->s = null; x->o = new b; z = new c; z = z; z = null;"),
		within("free(x); free(x->o); free(x->o->o); free(z);"),
		within("none(); num(1); num(i); ptr(null); ptr(x); ptr(x->s); two(y, i); two(null, 2); more(1, x->s, i, y->s); more(i, null, 2, null);"),
		within("if (?) { } while (?) { } if (x == u) { } if (x != null) { } if (null == y->s) { } if (null != null) { } if (i == 1) { } if (2 != j) { } if (3 == 4) { }"),
		within("while (i < j) { } while (1 >= i) { } while (i < 2) { } while (1 >= 2) { } while (i >= i) { }"),
		"struct a { } a* x; void main() { int x; x = 1; } void q() { x = new a; }",
		"struct a { } int x; void q(a* x) { x = null; free(x); } void main() { x = 1; q(null); }",
	} {
		p, _ := read(t, text)
		holdRight(t, text, p)
	}
}

// P9.2: each error by itself, at each kind of statement.
func TestCheckOfOneFault(t *testing.T) {
	for _, c := range []struct {
		body string
		err  api.Errno
	}{
		// Set: its Place
		{"#v = null;", api.ErrNone},
		{"#v = 1;", api.ErrNone},
		{"#v->s = null;", api.ErrNone},
		{"#a = null;", api.ErrNone},
		{"#main = 1;", api.ErrNone},
		{"#n = 1;", api.ErrNone},
		{"i#->s = null;", api.ErrType},
		{"x->s->o->o#->v = null;", api.ErrNone},
		{"z#->s = null;", api.ErrNone},
		{"x#->x = x;", api.ErrNone},
		// Set: its Value
		{"i = #null;", api.ErrType},
		{"x = #v;", api.ErrNone},
		{"i = #v;", api.ErrNone},
		{"x = x#->v;", api.ErrNone},
		{"x = i#->s;", api.ErrType},
		{"i = i#->s;", api.ErrType},
		{"x = #y;", api.ErrType},
		{"x = #i;", api.ErrType},
		{"i = #x;", api.ErrType},
		{"x = #x->o;", api.ErrType},
		{"y = #y->s->o;", api.ErrType},
		{"i = #x->s;", api.ErrType},
		{"x->s = #y;", api.ErrType},
		{"x->o->s = #x;", api.ErrType},
		{"x->o = #i;", api.ErrType},
		{"x = #new v;", api.ErrNone},
		{"i = #new v;", api.ErrNone},
		{"x = #new x;", api.ErrNone},
		{"x = #new s;", api.ErrNone},
		{"x = #new main;", api.ErrNone},
		{"x = #new b;", api.ErrType},
		{"x->o = #new a;", api.ErrType},
		{"i = #new a;", api.ErrType},
		{"x = #input;", api.ErrType},
		{"x->s = #input;", api.ErrType},
		{"x = #0;", api.ErrType},
		{"x->o->s = #7;", api.ErrType},
		{"x = #i + 1;", api.ErrType},
		{"x = #1 - i;", api.ErrType},
		{"x = #x + x;", api.ErrType},
		{"x->s = #0 - 0;", api.ErrType},
		{"i = #v + 1;", api.ErrNone},
		{"i = 1 + #v;", api.ErrNone},
		{"i = #v - i;", api.ErrNone},
		{"i = i - #v;", api.ErrNone},
		{"i = #x + 1;", api.ErrType},
		{"i = 1 + #x;", api.ErrType},
		{"i = #y - j;", api.ErrType},
		{"i = i - #z;", api.ErrType},
		// Free
		{"free(#v);", api.ErrNone},
		{"free(#v->s);", api.ErrNone},
		{"free(x#->v);", api.ErrNone},
		{"free(x->s#->v->s);", api.ErrNone},
		{"free(i#->s);", api.ErrType},
		{"free(#i);", api.ErrType},
		// Call
		{"#v();", api.ErrNone},
		{"#x();", api.ErrNone},
		{"#a(1);", api.ErrNone},
		{"#main();", api.ErrType},
		{"#main(1);", api.ErrType},
		{"#none(1);", api.ErrType},
		{"#num();", api.ErrType},
		{"#num(1, 2);", api.ErrType},
		{"#ptr();", api.ErrType},
		{"#two(y);", api.ErrType},
		{"#two(y, 1, 1);", api.ErrType},
		{"#more(1, x, 1);", api.ErrType},
		{"num(#null);", api.ErrType},
		{"num(#x);", api.ErrType},
		{"num(#v);", api.ErrNone},
		{"num(i#->s);", api.ErrType},
		{"num(x#->v);", api.ErrNone},
		{"num(#x->s);", api.ErrType},
		{"ptr(#1);", api.ErrType},
		{"ptr(#i);", api.ErrType},
		{"ptr(#y);", api.ErrType},
		{"ptr(#n);", api.ErrNone},
		{"ptr(#y->s);", api.ErrType},
		{"ptr(y#->v);", api.ErrNone},
		{"two(#x, 1);", api.ErrType},
		{"two(y, #null);", api.ErrType},
		{"more(#null, null, 1, null);", api.ErrType},
		{"more(1, #1, 1, null);", api.ErrType},
		{"more(1, null, #null, null);", api.ErrType},
		{"more(1, null, 1, #1);", api.ErrType},
		{"more(1, x, i, #x);", api.ErrType},
		{"more(1, #y, i, y);", api.ErrType},
		// If and While
		{"if (#v == null) { }", api.ErrNone},
		{"if (null == #v) { }", api.ErrNone},
		{"if (x#->v == null) { }", api.ErrNone},
		{"if (1 < i#->s) { }", api.ErrType},
		{"if (#i == null) { }", api.ErrType},
		{"if (#null != i) { }", api.ErrType},
		{"if (#1 == null) { }", api.ErrType},
		{"if (#x == y) { }", api.ErrType},
		{"if (#x == x->o) { }", api.ErrType},
		{"if (#x != i) { }", api.ErrType},
		{"if (#2 != y->s) { }", api.ErrType},
		{"if (#x < u) { }", api.ErrType},
		{"if (#null < null) { }", api.ErrType},
		{"while (#v >= 1) { }", api.ErrNone},
		{"while (i < #v) { }", api.ErrNone},
		{"while (#x >= x) { }", api.ErrType},
		{"while (#null >= x) { }", api.ErrType},
		{"while (#x >= 1) { }", api.ErrType},
		{"while (#1 < x) { }", api.ErrType},
		{"while (#y->o == y) { }", api.ErrType},
		{"while (#z != x) { }", api.ErrType},
	} {
		p, at := read(t, within(c.body))
		holdWrong(t, c.body, p, at, c.err)
		for i, text := range surround(c.body) {
			p, at := read(t, text)
			holdWrong(t, c.body+", surrounded "+strconv.Itoa(i), p, at, c.err)
		}
	}
}

// surround puts statements behind and within right ones, and into other procedures.
func surround(body string) []string {
	return []string{
		within("x = null; ; i = 1; " + body),
		within(body + " x = null; { }"),
		within("{ " + body + " }"),
		within("{ } { ; { i = 1; { } " + body + " } }"),
		within("while (?) { " + body + " }"),
		within("while (i < 1) { while (x == u) { " + body + " } }"),
		within("if (?) { " + body + " }"),
		within("if (x == null) { " + body + " } else { }"),
		within("if (?) { } else { " + body + " }"),
		within("if (?) { i = 1; } else { if (?) { } else { x = y->o; " + body + " i = 2; } }"),
		within(strings.Repeat("while (?) { ", 19) + body + strings.Repeat(" }", 19)),
		within("") + " void behind() { " + body + " }",
		base + "void ahead() { " + body + " } void main() { }",
		within("behind(null);") + " void behind(a* k) { int l; l = 1; while (k != null) { k = k->s; " + body + " } }",
	}
}

// Base's procedures have names of their own, which mean nothing in others.
func TestCheckOfEachProcedure(t *testing.T) {
	for _, c := range []struct {
		text string
		err  api.Errno
	}{
		{"void p(int k) { } void main() { #k = 1; }", api.ErrNone},
		{"void p() { int k; k = 1; } void main() { #k = 1; }", api.ErrNone},
		{"void main() { int k; k = 1; } void p() { #k = 1; }", api.ErrNone},
		{"struct a { } void p(a* k) { k = null; } void main() { int k; k = #null; }", api.ErrType},
		{"struct a { } int k; void p(a* k) { k = #1; } void main() { k = 1; }", api.ErrType},
		{"struct a { } a* k; void p(int k) { k = #null; } void main() { k = null; }", api.ErrType},
		{"struct a { } a* k; void p() { int k; free(#k); } void main() { free(k); }", api.ErrType},
		{"struct a { } a* k; void p(int k) { p(k); p(#null); } void main() { p(#1); }", api.ErrType},
		{"struct a { } a* k; void p(a* k) { } void main() { int k; p(#k); }", api.ErrType},
		{"struct a { a* s; } a* k; void p(int k) { if (#k == null) { } } void main() { if (k == null) { } }", api.ErrType},
		{"struct a { a* s; } a* k; void p(int k) { k#->s = null; } void main() { k->s = null; }", api.ErrType},
		{"struct a { a* s; } int k; void main() { k = k + 1; } void p() { a* k; k = #k + 1; }", api.ErrType},
	} {
		p, at := read(t, strings.Replace(c.text, "p(#1)", "p(1)", 1))
		holdWrong(t, c.text, p, at, c.err)
	}
}

// The place and the error of what comes ahead of all statements.
func TestCheckAheadOfStatements(t *testing.T) {
	for _, c := range []struct {
		what string
		text string
		err  api.Errno
	}{
		{"two structs alike", "struct a { } struct #a { } void main() { }", api.ErrTwice},
		{"a field of no Type", "struct a { b* #n; } void main() { }", api.ErrNone},
		{"nine structs", many(8, "struct a% { } ") + "struct #b { } void main() { }", api.ErrMany},
		{"nine fields", "struct a { " + many(8, "a* n%; ") + "a* #m; } void main() { }", api.ErrMany},
		{"two globals alike", "int i; int #i; void main() { }", api.ErrTwice},
		{"a global of no Type", "b* #x; void main() { }", api.ErrNone},
		{"seventeen globals", many(16, "int i%; ") + "int #j; void main() { }", api.ErrMany},
		{"two procedures alike", "void main() { } void p() { } void #p() { }", api.ErrTwice},
		{"two mains", "void main() { } void #main() { }", api.ErrTwice},
		{"seventeen procedures", "void main() { } " + many(15, "void p%() { } ") + "void #q() { }", api.ErrMany},
		{"a parameter of no Type", "void main() { } void p(b* #x) { }", api.ErrNone},
		{"a local that is a parameter", "void p(int i) { int #i; } void main() { }", api.ErrTwice},
		{"main with a parameter", "void #main(int i) { }", api.ErrType},
		{"main with parameters", "struct a { } void p() { } void #main(a* i, int j) { int k; } void q() { }", api.ErrType},
	} {
		p, at := read(t, c.text)
		holdWrong(t, c.what, p, at, c.err)
	}
	for _, text := range []string{"", "int i;", "struct a { a* n; } a* x;", "void p() { }", "void Main() { }", "void main_() { } void mai() { }",
		"struct main { main* main; } int main; void p(int main) { }", "void p() { int main; main = 1; }"} {
		p, _ := read(t, text)
		holdWrong(t, "no main: "+text, p, 0, api.ErrNone)
	}
	holdWrong(t, "lists of nothing", api.Program{Structs: []api.Struct{}, Globals: []api.Decl{}, Procs: []api.Proc{}}, 0, api.ErrNone)
}

// badOnes are programs that no text is: each is wrong by layer 7 alone.
func badOnes() []api.Program {
	right := func() api.Program {
		return api.Program{
			Structs: []api.Struct{{Name: "a", At: 1, Fields: []api.Decl{{Type: "a", Name: "s", At: 2}}}},
			Globals: []api.Decl{{Name: "i", At: 3}, {Type: "a", Name: "x", At: 4}},
			Procs:   []api.Proc{{Name: "main", At: 5, End: 6, Body: []api.Stmt{{At: 7}}}},
		}
	}
	var all []api.Program
	bad := func(change func(p *api.Program)) {
		p := right()
		change(&p)
		all = append(all, p)
	}
	body := func(s api.Stmt) {
		bad(func(p *api.Program) { p.Procs[0].Body[0] = s })
	}
	bad(func(p *api.Program) { p.Structs[0].Name = "" })
	bad(func(p *api.Program) { p.Structs[0].Fields[0].Type = "" })
	bad(func(p *api.Program) { p.Structs[0].Fields[0].Name = "new" })
	bad(func(p *api.Program) { p.Globals[0].Name = "1" })
	bad(func(p *api.Program) { p.Globals[1].Type = "int" })
	bad(func(p *api.Program) { p.Procs = append(p.Procs, api.Proc{Name: "\xff"}) })
	bad(func(p *api.Program) { p.Procs[0].Params = []api.Decl{{}} })
	bad(func(p *api.Program) { p.Procs[0].Locals = []api.Decl{{Name: "x y"}} })
	bad(func(p *api.Program) { p.Procs[0].Body = make([]api.Stmt, 401) })
	bad(func(p *api.Program) {
		for range 21 {
			p.Procs[0].Body = []api.Stmt{{Kind: api.Block, Then: p.Procs[0].Body}}
		}
	})
	for _, kind := range []int{-1, 7, 1 << 40} {
		body(api.Stmt{Kind: kind})
		body(api.Stmt{Kind: api.Set, Place: api.Path{Name: "i"}, Value: api.Value{Kind: kind}})
		body(api.Stmt{Kind: api.If, Cond: api.Cond{Kind: kind}})
	}
	x := api.Path{Name: "x"}
	body(api.Stmt{Place: x})
	body(api.Stmt{Kind: api.Set, Place: x, Else: []api.Stmt{{}}})
	body(api.Stmt{Kind: api.Set, Place: api.Path{Name: "x", Hops: slices.Repeat([]api.Hop{{Name: "s"}}, 9)}})
	body(api.Stmt{Kind: api.Set, Place: x, Value: api.Value{Path: x}})
	body(api.Stmt{Kind: api.Set, Place: api.Path{Name: "i"}, Value: api.Value{Kind: api.Number, Left: api.Term{N: -1}}})
	body(api.Stmt{Kind: api.Set, Place: api.Path{Name: "i"}, Value: api.Value{Kind: api.Plus, Left: api.Term{Name: "i", N: 1}}})
	body(api.Stmt{Kind: api.Free})
	body(api.Stmt{Kind: api.Free, Place: x, Both: true})
	body(api.Stmt{Kind: api.Call, Name: "main", Args: []api.Value{{Kind: api.Fresh, Type: "a"}}})
	body(api.Stmt{Kind: api.Call, Name: "main", Args: []api.Value{{Kind: api.Input}}})
	body(api.Stmt{Kind: api.If, Else: []api.Stmt{{}}})
	body(api.Stmt{Kind: api.While, Cond: api.Cond{Left: api.Value{Kind: api.Number}}})
	body(api.Stmt{Kind: api.While, Cond: api.Cond{Kind: api.Less, Left: api.Value{Kind: api.Plus}}})
	return all
}

func TestCheckOfTreesThatAreNotRight(t *testing.T) {
	for i, p := range badOnes() {
		what := "what no text is " + strconv.Itoa(i)
		holdWrong(t, what, p, 0, api.ErrBad)
		holdWrong(t, what+", spread", spread(p, 1000, -1), 0, api.ErrBad)
	}
}

// What is new, an input or a sum is neither handed on nor held against another value, whatever its type would be.
func TestCheckOfValuesThatMayNotBeHandedOn(t *testing.T) {
	p, _ := read(t, within("more(1, x, 1, y); if (i == j) { } while (x == u) { }"))
	for _, v := range []api.Value{{Kind: api.Fresh, Type: "a"}, {Kind: api.Input}, {Kind: api.Plus, Left: api.Term{Name: "i"}}, {Kind: api.Minus}} {
		for i := range 4 {
			bad := twin(p)
			bad.Procs[len(p.Procs)-1].Body[0].Args[i] = v
			holdWrong(t, "an argument that may not be", bad, 0, api.ErrBad)
		}
		for i := 1; i <= 2; i++ {
			left, right := twin(p), twin(p)
			left.Procs[len(p.Procs)-1].Body[i].Cond.Left = v
			right.Procs[len(p.Procs)-1].Body[i].Cond.Right = v
			holdWrong(t, "a left side that may not be", left, 0, api.ErrBad)
			holdWrong(t, "a right side that may not be", right, 0, api.ErrBad)
		}
	}
	holdRight(t, "as it was", p)
}

// R1: lists that hold themselves, and the deepest ones, are not Right.
func TestCheckOfListsWithoutEnd(t *testing.T) {
	for _, kind := range []int{api.Skip, api.Set, api.If, api.While, api.Block, 99} {
		itself := []api.Stmt{{Kind: kind, At: 9}, {}}
		itself[0].Then = itself
		deep := []api.Stmt{{}}
		for range 1 << 16 {
			deep = []api.Stmt{{Kind: kind, Then: deep}}
		}
		for _, l := range [][]api.Stmt{itself, deep} {
			p := api.Program{Procs: []api.Proc{{Name: "main", Body: l}}}
			if at, err := check.Check(p); at != 0 || err != api.ErrBad {
				t.Errorf("a list without end: %d, %v", at, err)
			}
		}
	}
	for _, n := range []int{400, 401, 1 << 16} {
		p := api.Program{Procs: []api.Proc{{Name: "main", Body: make([]api.Stmt, n)}}}
		want := api.OK
		if n > 400 {
			want = api.ErrBad
		}
		holdWrong(t, "many statements", p, 0, want)
	}
}

// All caps at once: what is right stays right, and the last statement of 400 may be wrong.
func TestCheckAtTheCaps(t *testing.T) {
	const far = "->n->n->n->n->n->n->n->n"
	params := strings.Trim(many(8, "int a%, s1* b%, "), ", ")
	args := strings.Trim(many(8, "%, x%"+far+", "), ", ")
	ahead := many(8, "struct s% { s1* n; } ") + many(8, "s0* x%; int i%; ") + many(15, "void p%("+params+") { } ") +
		"void main() { " + many(8, "s2* x%; int j%; ") + strings.Repeat("p14("+args+"); ", 199) + strings.Repeat("x0"+far+" = x1->n; ", 200)
	p, _ := read(t, ahead+"x7->n = x0->n; }")
	holdRight(t, "all caps", p)
	for _, last := range []string{"x0->n = #x0; }", "x0->n = #1; }", "p0(" + args[:len(args)-3] + "#->m); }", "#p15(); }"} {
		p, at := read(t, ahead+last)
		err := api.ErrType
		if strings.Contains(last, "->m") || strings.Contains(last, "p15") {
			err = api.ErrNone
		}
		holdWrong(t, "all caps, and "+last, p, at, err)
	}
}
