package check

import (
	"umbral/api"
	"umbral/scope"
)

// rules are what is asked of the kinds of statements: each tells the first thing that is wrong in a statement itself.
type rules interface {
	set(s *api.Stmt) (int, api.Errno)
	free(s *api.Stmt) (int, api.Errno)
	call(s *api.Stmt) (int, api.Errno)
	branch(s *api.Stmt) (int, api.Errno)
}

// each asks all statements of a list, each ahead of those within it.
func each(r rules, list []api.Stmt) (int, api.Errno) {
	for i := range list {
		s := &list[i]
		if at, err := ask(r, s); err != api.OK {
			return at, err
		}
		if at, err := each(r, s.Then); err != api.OK {
			return at, err
		}
		if at, err := each(r, s.Else); err != api.OK {
			return at, err
		}
	}
	return 0, api.OK
}

func ask(r rules, s *api.Stmt) (int, api.Errno) {
	switch s.Kind {
	case api.Set:
		return r.set(s)
	case api.Free:
		return r.free(s)
	case api.Call:
		return r.call(s)
	case api.If, api.While:
		return r.branch(s)
	}
	return 0, api.OK
}

// frame is a procedure, and what its names may mean. It has the rules of types.
type frame struct {
	table *scope.Table
	procs []api.Proc
	proc  api.Proc
	main  int // main's number
}

func (f *frame) set(s *api.Stmt) (int, api.Errno) {
	kind, at, err := f.path(s.Place)
	if err != api.OK {
		return at, err
	}
	return f.fit(&s.Value, kind)
}

func (f *frame) free(s *api.Stmt) (int, api.Errno) {
	kind, at, err := f.path(s.Place)
	if err != api.OK {
		return at, err
	}
	return must(kind != scope.Int, s.Place.At)
}

func (f *frame) call(s *api.Stmt) (int, api.Errno) {
	number, found := f.table.Proc(s.Name)
	if !found {
		return s.At, api.ErrNone
	}
	params := f.procs[number].Params
	if number == f.main || len(s.Args) != len(params) {
		return s.At, api.ErrType
	}
	for i := range s.Args {
		if at, err := f.fit(&s.Args[i], typeOf(f.table, params[i])); err != api.OK {
			return at, err
		}
	}
	return 0, api.OK
}

func (f *frame) branch(s *api.Stmt) (int, api.Errno) {
	c := &s.Cond
	if c.Kind == api.Choice {
		return 0, api.OK
	}
	left, at, err := f.side(&c.Left)
	if err != api.OK {
		return at, err
	}
	right, at, err := f.side(&c.Right)
	if err != api.OK {
		return at, err
	}
	if c.Kind == api.Less || c.Kind == api.NotLess {
		return must(left == scope.Int && right == scope.Int, c.At)
	}
	return must(areAlike(left, right), c.At)
}

func (f *frame) path(w api.Path) (int, int, api.Errno) { return Path(f.table, f.proc, w) }

// must is the error of what is of another type than it must be.
func must(right bool, at int) (int, api.Errno) {
	if !right {
		return at, api.ErrType
	}
	return 0, api.OK
}
