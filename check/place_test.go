package check_test

import (
	"math"
	"testing"

	"umbral/api"
)

// P9.2: which place is told, where a tree has unlike ones for things that begin at one place in a text.
func TestCheckOfPlaces(t *testing.T) {
	type pick func(s api.Stmt) int
	ofPlace := func(s api.Stmt) int { return s.Place.At }
	ofHop := func(s api.Stmt) int { return s.Place.Hops[0].At }
	ofValue := func(s api.Stmt) int { return s.Value.At }
	ofPath := func(s api.Stmt) int { return s.Value.Path.At }
	ofLeft := func(s api.Stmt) int { return s.Value.Left.At }
	ofRight := func(s api.Stmt) int { return s.Value.Right.At }
	ofStmt := func(s api.Stmt) int { return s.At }
	ofCond := func(s api.Stmt) int { return s.Cond.At }
	for _, c := range []struct {
		body string
		at   pick
		err  api.Errno
	}{
		{"v = 1;", ofPlace, api.ErrNone},
		{"v->s = 1;", ofPlace, api.ErrNone},
		{"x->v = 1;", ofHop, api.ErrNone},
		{"i->s = 1;", ofHop, api.ErrType},
		{"x->s->v = 1;", func(s api.Stmt) int { return s.Place.Hops[1].At }, api.ErrNone},
		{"i = null;", ofValue, api.ErrType},
		{"i = v;", ofPath, api.ErrNone},
		{"i = x->v;", func(s api.Stmt) int { return s.Value.Path.Hops[0].At }, api.ErrNone},
		{"x = y;", ofValue, api.ErrType},
		{"x = x->o;", ofValue, api.ErrType},
		{"x = new v;", ofValue, api.ErrNone},
		{"x = new b;", ofValue, api.ErrType},
		{"i = new b;", ofValue, api.ErrType},
		{"x = input;", ofValue, api.ErrType},
		{"x = 1;", ofValue, api.ErrType},
		{"x = v + 1;", ofValue, api.ErrType},
		{"x = 1 - 1;", ofValue, api.ErrType},
		{"i = v + w;", ofLeft, api.ErrNone},
		{"i = x - w;", ofLeft, api.ErrType},
		{"i = 1 - w;", ofRight, api.ErrNone},
		{"i = i + x;", ofRight, api.ErrType},
		{"free(v);", ofPlace, api.ErrNone},
		{"free(i);", ofPlace, api.ErrType},
		{"free(z->s);", ofHop, api.ErrNone},
		{"v();", ofStmt, api.ErrNone},
		{"main();", ofStmt, api.ErrType},
		{"num();", ofStmt, api.ErrType},
		{"num(null);", func(s api.Stmt) int { return s.Args[0].At }, api.ErrType},
		{"num(v);", func(s api.Stmt) int { return s.Args[0].Path.At }, api.ErrNone},
		{"num(i->s);", func(s api.Stmt) int { return s.Args[0].Path.Hops[0].At }, api.ErrType},
		{"two(null, x);", func(s api.Stmt) int { return s.Args[1].At }, api.ErrType},
		{"two(y, v);", func(s api.Stmt) int { return s.Args[1].Path.At }, api.ErrNone},
		{"if (v == 1) { }", func(s api.Stmt) int { return s.Cond.Left.Path.At }, api.ErrNone},
		{"if (1 != v) { }", func(s api.Stmt) int { return s.Cond.Right.Path.At }, api.ErrNone},
		{"while (x->v < 1) { }", func(s api.Stmt) int { return s.Cond.Left.Path.Hops[0].At }, api.ErrNone},
		{"while (1 >= i->s) { }", func(s api.Stmt) int { return s.Cond.Right.Path.Hops[0].At }, api.ErrType},
		{"if (x == y) { }", ofCond, api.ErrType},
		{"if (null == 1) { }", ofCond, api.ErrType},
		{"if (null >= null) { }", ofCond, api.ErrType},
		{"while (1 < x) { }", ofCond, api.ErrType},
	} {
		for _, step := range []int{1, -1} {
			p, _ := read(t, within("; "+c.body))
			p = spread(p, 1000, step)
			body := p.Procs[len(p.Procs)-1].Body
			holdWrong(t, c.body+", spread", p, c.at(body[1]), c.err)
		}
		p, _ := read(t, within(c.body))
		for _, at := range []int{0, -1, math.MaxInt, math.MinInt} {
			holdWrong(t, c.body+", all at one place", spread(p, at, 0), at, c.err)
		}
	}
	p, _ := read(t, "void p() { } void main(int i) { }")
	p = spread(p, 1000, -1)
	holdWrong(t, "main with parameters, spread", p, p.Procs[1].At, api.ErrType)
	p, _ = read(t, "void p() { }")
	holdWrong(t, "no main, spread", spread(p, 1000, -1), 0, api.ErrNone)
}

// R7: what a text that is right has no place for is not asked for its place.
func TestCheckOfRightOnesSpread(t *testing.T) {
	p, _ := read(t, within("x = y->o; if (x == null) { i = i + 1; } else { two(y, i); } while (?) { free(z); }"))
	for _, first := range []int{0, -1000, math.MaxInt - 1000, math.MinInt} {
		for _, step := range []int{1, 0} {
			holdRight(t, "a right one, spread", spread(p, first, step))
		}
	}
}
