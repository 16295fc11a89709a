package check_test

import (
	"reflect"
	"slices"
	"testing"

	"umbral/api"
	"umbral/check"
	"umbral/print"
	"umbral/scope"
)

// fault is what is wrong, and where; the zero one is that nothing is.
type fault struct {
	at  int
	err api.Errno
}

// world is a program, and one of its procedures: a model that only goes over lists.
type world struct {
	p api.Program
	q api.Proc
}

func (m world) structNumber(name string) int {
	return slices.IndexFunc(m.p.Structs, func(s api.Struct) bool { return s.Name == name })
}

// path is what w is: its type, or a fault. It looks at the last hop first.
func (m world) path(w api.Path) (int, fault) {
	if n := len(w.Hops); n > 0 {
		kind, wrong := m.path(api.Path{Name: w.Name, At: w.At, Hops: w.Hops[:n-1]})
		if wrong != (fault{}) {
			return 0, wrong
		}
		return m.hop(kind, w.Hops[n-1])
	}
	l := slices.Concat(m.q.Params, m.q.Locals, m.p.Globals)
	i := slices.IndexFunc(l, func(d api.Decl) bool { return d.Name == w.Name })
	if i < 0 {
		return 0, fault{w.At, api.ErrNone}
	}
	if l[i].Type == "" {
		return -1, fault{}
	}
	return m.structNumber(l[i].Type), fault{}
}

func (m world) hop(kind int, h api.Hop) (int, fault) {
	if kind < 0 {
		return 0, fault{h.At, api.ErrType}
	}
	for _, d := range m.p.Structs[kind].Fields {
		if d.Name == h.Name {
			return m.structNumber(d.Type), fault{}
		}
	}
	return 0, fault{h.At, api.ErrNone}
}

// value is all that is wrong with a value that is to be of a type.
func (m world) value(v api.Value, kind int) []fault {
	wrong := fault{v.At, api.ErrType}
	switch v.Kind {
	case api.Null:
		return when(kind == -1, wrong)
	case api.Way:
		got, told := m.path(v.Path)
		return slices.Concat(when(told.err != api.OK, told), when(told.err == api.OK && got != kind, wrong))
	case api.Fresh:
		number := m.structNumber(v.Type)
		return slices.Concat(when(number < 0, fault{v.At, api.ErrNone}), when(number != kind, wrong))
	case api.Plus, api.Minus:
		return slices.Concat(when(kind != -1, wrong), m.term(v.Left), m.term(v.Right))
	}
	return when(kind != -1, wrong)
}

func (m world) term(x api.Term) []fault {
	if x.Name == "" {
		return nil
	}
	return m.value(api.Value{Kind: api.Way, At: x.At, Path: api.Path{Name: x.Name, At: x.At}}, -1)
}

func when(wrong bool, f fault) []fault {
	if wrong {
		return []fault{f}
	}
	return nil
}

// sorts of a condition's sides.
const (
	isNumber = iota
	isNull
	isPointer
)

func (m world) side(v api.Value) (int, int, []fault) {
	switch v.Kind {
	case api.Null:
		return isNull, 0, nil
	case api.Number:
		return isNumber, 0, nil
	}
	kind, wrong := m.path(v.Path)
	if kind == -1 {
		return isNumber, 0, nil
	}
	return isPointer, kind, when(wrong.err != api.OK, wrong)
}

func (m world) cond(c api.Cond) []fault {
	if c.Kind == api.Choice {
		return nil
	}
	a, aKind, aWrong := m.side(c.Left)
	b, bKind, bWrong := m.side(c.Right)
	all := slices.Concat(aWrong, bWrong)
	wrong := fault{c.At, api.ErrType}
	all = append(all, when((a == isNumber) != (b == isNumber), wrong)...)
	all = append(all, when(a == isPointer && b == isPointer && aKind != bKind, wrong)...)
	isOrder := c.Kind == api.Less || c.Kind == api.NotLess
	return append(all, when(isOrder && (a != isNumber || b != isNumber), wrong)...)
}

// stmt is all that is wrong with a statement itself.
func (m world) stmt(s api.Stmt) []fault {
	switch s.Kind {
	case api.Set:
		kind, wrong := m.path(s.Place)
		if wrong.err != api.OK {
			return []fault{wrong}
		}
		return m.value(s.Value, kind)
	case api.Free:
		kind, wrong := m.path(s.Place)
		return slices.Concat(when(wrong.err != api.OK, wrong), when(kind == -1, fault{s.Place.At, api.ErrType}))
	case api.Call:
		return m.call(s)
	case api.If, api.While:
		return m.cond(s.Cond)
	}
	return nil
}

func (m world) call(s api.Stmt) []fault {
	i := slices.IndexFunc(m.p.Procs, func(q api.Proc) bool { return q.Name == s.Name })
	if i < 0 {
		return []fault{{s.At, api.ErrNone}}
	}
	params := m.p.Procs[i].Params
	if s.Name == "main" || len(params) != len(s.Args) {
		return []fault{{s.At, api.ErrType}}
	}
	var all []fault
	for k, d := range params {
		all = append(all, m.value(s.Args[k], m.structNumber(d.Type))...)
	}
	return all
}

// inOrder are all statements of a list, each ahead of those within it.
func inOrder(list []api.Stmt) []api.Stmt {
	var all []api.Stmt
	for _, s := range list {
		all = slices.Concat(all, []api.Stmt{s}, inOrder(s.Then), inOrder(s.Else))
	}
	return all
}

// faults are all that is wrong with p: the first one is Check's.
func faults(p api.Program) []fault {
	if !print.Right(p) {
		return []fault{{0, api.ErrBad}}
	}
	_, at, err := scope.Build(p)
	all := when(err != api.OK, fault{at, err})
	main := slices.IndexFunc(p.Procs, func(q api.Proc) bool { return q.Name == "main" })
	if main < 0 {
		all = append(all, fault{0, api.ErrNone})
	} else if len(p.Procs[main].Params) > 0 {
		all = append(all, fault{p.Procs[main].At, api.ErrType})
	}
	if err != api.OK {
		return all
	}
	for _, q := range p.Procs {
		for _, s := range inOrder(q.Body) {
			all = append(all, world{p, q}.stmt(s)...)
		}
	}
	return all
}

// holdCheck holds Check of p against the model.
func holdCheck(t *testing.T, what string, p api.Program) fault {
	t.Helper()
	var want fault
	if all := faults(p); len(all) > 0 {
		want = all[0]
	}
	before := twin(p)
	at, err := check.Check(p)
	got := fault{at, err}
	if got != want {
		t.Errorf("Check of %s: %v, want %v", what, got, want)
	}
	if !untouched(p, before) {
		t.Errorf("Check of %s changes it", what)
	}
	return got
}

// holdWrong holds that Check tells this place and this error.
func holdWrong(t *testing.T, what string, p api.Program, at int, err api.Errno) {
	t.Helper()
	if got := holdCheck(t, what, p); got != (fault{at, err}) {
		t.Errorf("Check of %s: %v, want %d, %v", what, got, at, err)
	}
}

// holdRight holds that Check tells 0 and OK.
func holdRight(t *testing.T, what string, p api.Program) {
	t.Helper()
	holdWrong(t, what, p, 0, api.OK)
}

// told is what Path told.
type told struct {
	kind, at int
	err      api.Errno
}

// holdPath holds what Path tells.
func holdPath(t *testing.T, what string, x *scope.Table, q api.Proc, w api.Path, want told) {
	t.Helper()
	q0, w0 := twin(q), twin(w)
	kind, at, err := check.Path(x, q, w)
	if got := (told{kind, at, err}); got != want {
		t.Errorf("Path of %s: %v, want %v", what, got, want)
	}
	if !untouched(q, q0) || !untouched(w, w0) {
		t.Errorf("Path of %s changes what it is given", what)
	}
}

// twin is of its own memory, as x is in all, the spare room of its lists too.
func twin[T any](x T) T {
	var y T
	twinTo(reflect.ValueOf(&y).Elem(), reflect.ValueOf(&x).Elem())
	return y
}

func twinTo(to, from reflect.Value) {
	switch from.Kind() {
	case reflect.Struct:
		for i := range from.NumField() {
			twinTo(to.Field(i), from.Field(i))
		}
	case reflect.Slice:
		if from.IsNil() {
			return
		}
		room := from.Slice(0, from.Cap())
		to.Set(reflect.MakeSlice(from.Type(), room.Len(), room.Len()))
		for i := range room.Len() {
			twinTo(to.Index(i), room.Index(i))
		}
		to.Set(to.Slice(0, from.Len()))
	default:
		to.Set(from)
	}
}

// untouched tells whether a and b are alike, in the spare room of their lists too.
func untouched[T any](a, b T) bool { return alike(reflect.ValueOf(a), reflect.ValueOf(b)) }

func alike(a, b reflect.Value) bool {
	switch a.Kind() {
	case reflect.Struct:
		for i := range a.NumField() {
			if !alike(a.Field(i), b.Field(i)) {
				return false
			}
		}
		return true
	case reflect.Slice:
		if a.Len() != b.Len() || a.Cap() != b.Cap() || a.IsNil() != b.IsNil() {
			return false
		}
		a, b = a.Slice(0, a.Cap()), b.Slice(0, b.Cap())
		for i := range a.Len() {
			if !alike(a.Index(i), b.Index(i)) {
				return false
			}
		}
		return true
	}
	return a.Interface() == b.Interface()
}

// spread gives all that has one a place of its own, in the order of the tree, or in the opposite one, in memory of its own.
func spread(p api.Program, first, step int) api.Program {
	p = twin(p)
	spreadIn(reflect.ValueOf(&p).Elem(), &first, step)
	return p
}

func spreadIn(v reflect.Value, next *int, step int) {
	switch v.Kind() {
	case reflect.Struct:
		for i := range v.NumField() {
			if name := v.Type().Field(i).Name; name == "At" || name == "End" {
				v.Field(i).SetInt(int64(*next))
				*next += step
			} else {
				spreadIn(v.Field(i), next, step)
			}
		}
	case reflect.Slice:
		for i := range v.Len() {
			spreadIn(v.Index(i), next, step)
		}
	}
}
