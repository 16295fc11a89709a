package check

import (
	"umbral/api"
	"umbral/scope"
)

// nothing is the type of null as a side of a condition: it is held against pointers of any type.
const nothing = scope.Int - 1

// fit tells whether v may be put where something of this type is; else what is wrong first, and where.
func (f *frame) fit(v *api.Value, kind int) (int, api.Errno) {
	switch v.Kind {
	case api.Null:
		return must(kind != scope.Int, v.At)
	case api.Way:
		got, at, err := f.path(v.Path)
		if err != api.OK {
			return at, err
		}
		return must(got == kind, v.At)
	case api.Fresh:
		got, found := f.table.Struct(v.Type)
		if !found {
			return v.At, api.ErrNone
		}
		return must(got == kind, v.At)
	}
	if kind != scope.Int {
		return v.At, api.ErrType
	}
	if v.Kind == api.Plus || v.Kind == api.Minus {
		return f.terms(v)
	}
	return 0, api.OK
}

// terms tells the first one of a sum's that is no number.
func (f *frame) terms(v *api.Value) (int, api.Errno) {
	if at, err := f.term(v.Left); err != api.OK {
		return at, err
	}
	return f.term(v.Right)
}

func (f *frame) term(x api.Term) (int, api.Errno) {
	if x.Name == "" {
		return 0, api.OK
	}
	kind, at, err := f.path(api.Path{Name: x.Name, At: x.At})
	if err != api.OK {
		return at, err
	}
	return must(kind == scope.Int, x.At)
}

// side tells the type of a condition's side.
func (f *frame) side(v *api.Value) (int, int, api.Errno) {
	switch v.Kind {
	case api.Null:
		return nothing, 0, api.OK
	case api.Way:
		return f.path(v.Path)
	}
	return scope.Int, 0, api.OK
}

// areAlike tells whether two sides may be held against each other: null is like all pointers.
func areAlike(left, right int) bool {
	if left == nothing || right == nothing {
		return left != scope.Int && right != scope.Int
	}
	return left == right
}
