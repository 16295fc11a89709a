package check_test

import (
	"strings"
	"testing"

	"umbral/api"
)

// P9.2: of two faults in one program the first one in the chapter's order counts, wherever both stand in the text.
func TestCheckOfTwoFaults(t *testing.T) {
	for _, c := range []struct {
		what string
		text string
		err  api.Errno
	}{
		{"Build's ahead of no main", "int i; int #i;", api.ErrTwice},
		{"Build's of the last procedure ahead of no main", "void p() { } void q(z* #k) { }", api.ErrNone},
		{"Build's ahead of main's parameters", "void main(int i) { } void p() { int k; int #k; }", api.ErrTwice},
		{"Build's of main ahead of main's parameters", "void main(int i) { z* #k; }", api.ErrNone},
		{"Build's ahead of a statement's", "void main() { v = 1; } void p(z* #k) { }", api.ErrNone},
		{"Build's of a global behind ahead of a statement's", "void main() { v = 1; } int i; int #i;", api.ErrTwice},
		{"Build's of a struct behind ahead of main's and a statement's", "void main(int i) { v = 1; } struct a { b* #n; }", api.ErrNone},
		{"main's parameters ahead of its statements", "void #main(int i) { v = 1; }", api.ErrType},
		{"main's parameters ahead of statements of procedures ahead", "void p() { v = 1; } void #main(int i) { }", api.ErrType},
		{"main's parameters ahead of a call of it", "void p() { main(); main(1); } void #main(int i) { main(1); }", api.ErrType},
		{"a procedure ahead of the next one", "void p() { #v = 1; } void main() { w = 1; }", api.ErrNone},
		{"a procedure ahead of main", "int i; void p() { free(#i); } void main() { w = 1; }", api.ErrType},
		{"main ahead of a procedure behind", "int i; void main() { i = 1; if (#w == 1) { } } void p() { free(i); }", api.ErrNone},
		{"main ahead of two procedures behind", "int i; void a() { } void main() { { { #a(1); } } } void p() { free(i); } void q() { v = 1; }", api.ErrType},
	} {
		p, at := read(t, c.text)
		holdWrong(t, c.what, p, at, c.err)
	}
	for _, text := range []string{"void p() { v = 1; }", "int i; void p(int main) { free(i); } void q() { main(); }"} {
		p, _ := read(t, text)
		holdWrong(t, "no main ahead of statements: "+text, p, 0, api.ErrNone)
	}
}

// Of two faults of one statement the first one in the chapter's order counts.
func TestCheckOfTwoFaultsOfOneStatement(t *testing.T) {
	for _, c := range []struct {
		body string
		err  api.Errno
	}{
		// the place's ahead of the value's
		{"#v = w;", api.ErrNone},
		{"#v = x->w;", api.ErrNone},
		{"#v = new w;", api.ErrNone},
		{"x#->v = 1;", api.ErrNone},
		{"i#->s = null;", api.ErrType},
		{"i#->s = v;", api.ErrType},
		{"z#->s = v + x;", api.ErrNone},
		{"x->s->o#->v->s = w;", api.ErrNone},
		// the name ahead of the hops, hop by hop
		{"#v->w = 1;", api.ErrNone},
		{"x = #v->w;", api.ErrNone},
		{"x = x#->v->w;", api.ErrNone},
		{"x = x->s#->w->v;", api.ErrNone},
		{"x = i#->v->w;", api.ErrType},
		{"free(#v->w);", api.ErrNone},
		{"free(y#->v->o);", api.ErrNone},
		{"num(#v->w);", api.ErrNone},
		{"num(j#->v->w);", api.ErrType},
		{"if (1 == x#->v->w) { }", api.ErrNone},
		// the path's ahead of its type's
		{"i = #v;", api.ErrNone},
		{"i = x#->v;", api.ErrNone},
		{"i = i#->s;", api.ErrType},
		{"i = x->o#->v;", api.ErrNone},
		// the name of a new one ahead of its type
		{"i = #new v;", api.ErrNone},
		// the sum's own type ahead of Left, Left ahead of Right
		{"x = #v + w;", api.ErrType},
		{"x = #1 + w;", api.ErrType},
		{"x = #v - 1;", api.ErrType},
		{"x->s = #x - y;", api.ErrType},
		{"i = #v + x;", api.ErrNone},
		{"i = #x + v;", api.ErrType},
		{"i = #v - w;", api.ErrNone},
		{"i = #x - y;", api.ErrType},
		// calls
		{"#f(v, 1);", api.ErrNone},
		{"#main(v);", api.ErrType},
		{"#none(v);", api.ErrType},
		{"#num(v, null);", api.ErrType},
		{"#two(null);", api.ErrType},
		{"two(#v, null);", api.ErrNone},
		{"two(#1, v);", api.ErrType},
		{"two(#x, null);", api.ErrType},
		{"two(y#->v, x);", api.ErrNone},
		{"more(1, #2, null, 3);", api.ErrType},
		{"more(#null, v, v, v);", api.ErrType},
		{"more(1, null, #x, v);", api.ErrType},
		{"more(1, x, i#->s, 3);", api.ErrType},
		// conditions
		{"if (#v == w) { }", api.ErrNone},
		{"if (x#->v == i->s) { }", api.ErrNone},
		{"if (i#->s == v) { }", api.ErrType},
		{"if (null < #v) { }", api.ErrNone},
		{"if (x < #v) { }", api.ErrNone},
		{"while (x >= i#->s) { }", api.ErrType},
		{"while (null == x#->v) { }", api.ErrNone},
		// a statement ahead of its Then, that ahead of its Else, and these ahead of the next one
		{"#v = 1; w = 1;", api.ErrNone},
		{"free(#i); free(v);", api.ErrType},
		{"i = #x; x = v;", api.ErrType},
		{"#none(1); none(2);", api.ErrType},
		{"if (#v == 1) { w = 1; }", api.ErrNone},
		{"if (#x == 1) { v = 1; } else { w = 1; }", api.ErrType},
		{"if (?) { #v = 1; } else { i = null; }", api.ErrNone},
		{"if (?) { i = #null; } else { v = 1; } w = 1;", api.ErrType},
		{"if (?) { } else { #v = 1; } i = null;", api.ErrNone},
		{"if (?) { { { free(#i); } } v = 1; } else { w = 1; }", api.ErrType},
		{"if (?) { ; } else { if (?) { } else { #v = 1; } free(i); } free(j);", api.ErrNone},
		{"while (#null < 1) { v = 1; } w = 1;", api.ErrType},
		{"while (?) { i = 1; free(#j); } v = 1;", api.ErrType},
		{"while (?) { while (?) { } } if (#v == w) { } free(i);", api.ErrNone},
		{"{ #v = 1; } free(i);", api.ErrNone},
		{"{ } { { } free(#i); } v = 1;", api.ErrType},
	} {
		p, at := read(t, within(c.body))
		holdWrong(t, c.body, p, at, c.err)
		holdFirst(t, c.body, p, c.err)
	}
}

// holdFirst holds that the first fault counts, whatever the places are: what has one has it for itself.
func holdFirst(t *testing.T, what string, p api.Program, err api.Errno) {
	t.Helper()
	for _, step := range []int{1, -1} {
		q := spread(p, 1000, step)
		all := faults(q)
		if len(all) == 0 || all[0].err != err {
			t.Fatalf("%s: faults %v, want %v first", what, all, err)
		}
		holdWrong(t, what, q, all[0].at, err)
	}
}

// wounds are statements that are wrong.
func wounds() []string {
	return []string{"#v = 1;", "i = #null;", "x = #y;", "x = #new v;", "x = #input;", "x = #i + v;", "i = 1 - #x;", "free(#i);", "free(x#->v);", "#f();", "#main();",
		"#num(1, 2);", "ptr(#1);", "if (#v == 1) { }", "if (#x == y) { }", "while (#null < 1) { }", "while (i >= i#->s) { }"}
}

// errOf is the error of a statement alone.
func errOf(t *testing.T, body string) api.Errno {
	t.Helper()
	p, _ := read(t, within(body))
	all := faults(p)
	if len(all) == 0 {
		t.Fatalf("%s is right", body)
	}
	return all[0].err
}

// Two wrong statements, in all orders and at all places to each other: the first one counts.
func TestCheckOfTwoWounds(t *testing.T) {
	for _, w := range wounds() {
		err := errOf(t, w)
		for _, v := range wounds() {
			v = strings.Replace(v, "#", "", 1)
			for _, text := range []string{
				within(w + " " + v),
				within("{ " + w + " } " + v),
				within("if (?) { " + w + " } else { " + v + " }"),
				within("if (?) { } else { " + w + " } " + v),
				within("while (?) { while (?) { i = 1; " + w + " } " + v + " } " + v),
				base + "void p() { " + w + " } void main() { " + v + " }",
				within(w) + "void p() { " + v + " }",
			} {
				p, at := read(t, text)
				holdWrong(t, w+" ahead of "+v, p, at, err)
				holdFirst(t, w+" ahead of "+v, p, err)
			}
		}
		for _, head := range []string{"if (#x == 1) { ", "while (#x == y) { ", "if (#1 < null) { } else { "} {
			p, at := read(t, within(head+strings.Replace(w, "#", "", 1)+" }"))
			holdWrong(t, head+w, p, at, api.ErrType)
		}
	}
}

// What no text is comes ahead of all else.
func TestCheckOfNotRightAheadOfAll(t *testing.T) {
	for _, text := range []string{"", "int i; int i; void main() { }", "void p() { }", "void main(int i) { }", within("v = 1; free(i);")} {
		p, _ := read(t, text)
		for _, change := range []func(p *api.Program){
			func(p *api.Program) { p.Structs = append(p.Structs, api.Struct{}) },
			func(p *api.Program) { p.Globals = append(p.Globals, api.Decl{Name: "1"}) },
			func(p *api.Program) { p.Procs = append(p.Procs, api.Proc{Name: "new"}) },
			func(p *api.Program) {
				p.Procs = append(p.Procs, api.Proc{Name: "last", Body: []api.Stmt{{Kind: 7, At: 3}}})
			},
			func(p *api.Program) {
				p.Procs = append(p.Procs, api.Proc{Name: "main", Params: []api.Decl{{Name: "i"}}, Body: make([]api.Stmt, 401)})
			},
		} {
			bad := twin(p)
			change(&bad)
			holdWrong(t, "what no text is, beside other faults", bad, 0, api.ErrBad)
		}
	}
}
