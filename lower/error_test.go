package lower_test

import (
	"strconv"
	"strings"
	"testing"

	"umbral/api"
	"umbral/calls"
	"umbral/check"
	"umbral/lower"
)

// many writes count texts, in each of which % is its number.
func many(count int, text string) string {
	all := ""
	for i := range count {
		all += strings.ReplaceAll(text, "%", strconv.Itoa(i))
	}
	return all
}

// P13.1: what is wrong by layers 9 and 10 is handed on, with its place.
func TestErrorsOfCheckAndCycle(t *testing.T) {
	for _, c := range []struct {
		text string
		err  api.Errno
	}{
		{"@x", api.ErrNone},
		{"@x struct t { } void f() { }", api.ErrNone},
		{"void @x main(int i) { }", api.ErrType},
		{"struct t { } struct @x t { } void main() { }", api.ErrTwice},
		{"struct t { v* @x n; } void main() { }", api.ErrNone},
		{"int i; int @x i; void main() { }", api.ErrTwice},
		{"void main() { } void @x main() { }", api.ErrTwice},
		{"void main() { @x z = null; }", api.ErrNone},
		{"struct t { } t* x; void main() { ; x = @x 1; }", api.ErrType},
		{"int i; void main() { i = @x null; }", api.ErrType},
		{"struct t { } t* x; void main() { x@x->n = x; }", api.ErrNone},
		{"void main() { ; @x f(); }", api.ErrNone},
		{"void main() { @x main(); }", api.ErrType},
		{"void p(int i) { } void main() { @x p(); }", api.ErrType},
		{"void @x p() { p(); } void main() { p(); }", api.ErrCycle},
		{"void @x p() { if (?) { p(); } } void main() { }", api.ErrCycle},
		{"void main() { p(); } void @x q() { p(); } void p() { { q(); } }", api.ErrCycle},
		{"void p() { p(); } void main() { @x z = null; }", api.ErrNone},
		{"void p() { p(); } void main() { p(); } void q() { @x p(1); }", api.ErrType},
	} {
		p, marks := read(t, c.text)
		holdWrong(t, c.text, p, marks["x"], c.err)
	}
	holdWrong(t, "nothing", api.Program{}, 0, api.ErrNone)
}

// ErrBad of Check: trees that no text makes.
func TestTreesThatAreBad(t *testing.T) {
	for what, spoil := range map[string]func(s *api.Stmt){
		"no kind of a statement": func(s *api.Stmt) { s.Kind = 7 },
		"a kind below 0":         func(s *api.Stmt) { s.Kind = -1 },
		"no kind of a value":     func(s *api.Stmt) { s.Value.Kind = 7 },
		"no name":                func(s *api.Stmt) { s.Place.Name = "" },
		"a name that may not be": func(s *api.Stmt) { s.Place.Name = "while" },
		"a number that is great": func(s *api.Stmt) { s.Value = api.Value{Kind: api.Number, Left: api.Term{N: api.MaxNumber + 1}} },
		"what it does not have":  func(s *api.Stmt) { s.Both = true },
		"a list of statements":   func(s *api.Stmt) { s.Then = []api.Stmt{{}} },
		"a list that holds itself": func(s *api.Stmt) {
			*s = api.Stmt{Kind: api.Block, Then: []api.Stmt{{}}}
			s.Then[0] = *s
		},
	} {
		p, _ := read(t, base+"void main() { x = y; }")
		spoil(&p.Procs[0].Body[0])
		p.Procs[0].Body[0].At = 5
		holdWrong(t, what, p, 0, api.ErrBad)
	}
}

// What is wrong by layers 9 and 10 is told ahead of ErrMany, in main and elsewhere.
func TestErrorsAheadOfMany(t *testing.T) {
	vars := many(16, "int g%; ") + "void main() { " + many(16, "int l%; ")
	points := "void h() { " + many(99, "; ") + "} void k() { " + many(20, "h(); ") + "} void main() { k(); "
	for _, ahead := range []string{vars, points} {
		for _, c := range []struct {
			text string
			err  api.Errno
		}{
			{"@x z = 1; }", api.ErrNone},
			{"} void p() { { @x q(); } }", api.ErrNone},
			{"} void p() { int i; i = @x null; }", api.ErrType},
			{"} void @x p() { p(); }", api.ErrCycle},
			{"a(); } void @x a() { b(); } void b() { a(); }", api.ErrCycle},
		} {
			p, marks := read(t, ahead+c.text)
			holdWrong(t, ahead+c.text, p, marks["x"], c.err)
		}
		p, _ := read(t, ahead+"}")
		if at, err := check.Check(p); at != 0 || err != api.OK {
			t.Errorf("%s}: %v at %d by Check", ahead, err, at)
		}
		if _, _, err := lower.Graph(p); err != api.ErrMany {
			t.Errorf("%s}: %v, want ErrMany", ahead, err)
		}
	}
}

// holdHandedOn holds that p has the error of layer 9, or 10, or is another matter.
func holdHandedOn(t *testing.T, what string, p api.Program) {
	t.Helper()
	at, err := check.Check(p)
	if err == api.OK {
		at, err = calls.Cycle(p)
	}
	if err != api.OK {
		holdWrong(t, what, p, at, err)
		return
	}
	if g, at, err := lower.Graph(p); err == api.OK && (at != 0 || g.Points == 0) || err != api.OK && err != api.ErrMany {
		t.Errorf("%s: %v at %d, with %d points", what, err, at, g.Points)
	}
}
