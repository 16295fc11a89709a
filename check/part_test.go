package check_test

import (
	"strings"
	"testing"

	"umbral/api"
	"umbral/print"
)

// eachStmt goes over all statements of a list, as they lie in it.
func eachStmt(list []api.Stmt, see func(s *api.Stmt)) {
	for i := range list {
		see(&list[i])
		eachStmt(list[i].Then, see)
		eachStmt(list[i].Else, see)
	}
}

// pathsIn tells where the paths of a statement lie.
func pathsIn(s *api.Stmt) []*api.Path {
	var all []*api.Path
	if s.Kind == api.Set || s.Kind == api.Free {
		all = append(all, &s.Place)
	}
	for _, v := range valuesIn(s) {
		if v.Kind == api.Way {
			all = append(all, &v.Path)
		}
	}
	return all
}

// valuesIn tells where the values of a statement lie.
func valuesIn(s *api.Stmt) []*api.Value {
	var all []*api.Value
	if s.Kind == api.Set {
		all = append(all, &s.Value)
	}
	if (s.Kind == api.If || s.Kind == api.While) && s.Cond.Kind != api.Choice {
		all = append(all, &s.Cond.Left, &s.Cond.Right)
	}
	for i := range s.Args {
		all = append(all, &s.Args[i])
	}
	return all
}

// kindOf is the type of a value that is right: that of its parts, whatever stands around.
func (m *maker) kindOf(v api.Value) int {
	switch v.Kind {
	case api.Null:
		return ofNo
	case api.Way:
		kind, _ := world{m.p, m.q}.path(v.Path)
		return kind
	case api.Fresh:
		return world{m.p, m.q}.structNumber(v.Type)
	}
	return ofInt
}

// swap puts what is of one kind and one type in the place of each part, one behind the other.
func (m *maker) swap(t *testing.T, what string, s *api.Stmt) {
	t.Helper()
	for _, w := range pathsIn(s) {
		kind, _ := world{m.p, m.q}.path(*w)
		if other, found := m.path(kind); found {
			*w = other
			holdRight(t, what+": a path of one type", m.p)
		}
	}
	for _, v := range valuesIn(s) {
		if v.Kind == api.Null { // there is but one
			continue
		}
		if other := m.value(m.kindOf(*v)); other.Kind == v.Kind && m.kindOf(other) == m.kindOf(*v) {
			*v = other
			holdRight(t, what+": a value of one kind and type", m.p)
		}
	}
	if other := m.cond(); s.Cond.Kind == other.Kind && (s.Kind == api.If || s.Kind == api.While) {
		s.Cond = other
		holdRight(t, what+": a condition of one kind", m.p)
	}
	m.left, m.deep = 2, 1
	switch other := m.stmt(); s.Kind {
	case api.If, api.While, api.Block:
		was := s.Then
		s.Then = []api.Stmt{other}
		if print.Right(m.p) {
			holdRight(t, what+": other statements within", m.p)
		}
		s.Then = was
	default:
		was := *s
		*s = other
		holdRight(t, what+": another statement", m.p)
		*s = was
	}
}

// P9.3: in right programs by lot parts are put in the place of others that are of the same kind and types.
func TestCheckOfPartsByLot(t *testing.T) {
	count := 0
	for i := range 300 {
		m := &maker{lot: lot(i), left: 5 + i%30, deep: i % 5}
		m.program()
		holdRight(t, "as it was", m.p)
		for k := range m.p.Procs {
			m.q = m.p.Procs[k]
			eachStmt(m.p.Procs[k].Body, func(s *api.Stmt) {
				m.swap(t, "by lot", s)
				count++
			})
		}
	}
	if count < 2000 {
		t.Errorf("only %d statements", count)
	}
}

// P9.3: of all values that may be put to a path of a type each may be put in the place of each other one; one of another type may not.
func TestCheckOfPartsOfOneType(t *testing.T) {
	for _, kind := range []int{ofInt, ofA, ofB, ofC} {
		var right []string
		for _, f := range valueForms() {
			if f.err == api.OK && (f.kind == kind || f.kind == ofNo && kind != ofInt) {
				right = append(right, f.text)
			}
		}
		for _, place := range pathForms() {
			if place.err != api.OK || place.kind != kind {
				continue
			}
			for _, text := range right {
				p, _ := read(t, within("while (?) { "+place.text+" = "+text+"; }"))
				holdRight(t, place.text+" = "+text, p)
			}
		}
	}
	texts := []string{"x", "x->s", "y->o", "u", "x->o->o"}
	for _, a := range texts {
		for _, b := range texts {
			for _, body := range []string{"% = &;", "%->s = &->s;", "free(%); ptr(&);", "more(1, %, 2, &->o);", "if (% == &) { } while (& != null) { free(%); }"} {
				p, _ := read(t, within(strings.NewReplacer("%", a, "&", b).Replace(body)))
				holdRight(t, body+" of "+a+" and "+b, p)
			}
		}
	}
}

// P9.3: bodies of two right programs that have the same names are put in the place of each other.
func TestCheckOfOtherBodies(t *testing.T) {
	for i := range 100 {
		m := &maker{lot: lot(i), left: 40, deep: 4}
		first := m.program()
		second := twin(first)
		for k := range second.Procs {
			m.left, m.q = 40, m.p.Procs[k]
			second.Procs[k].Body = m.stmts()
		}
		holdRight(t, "the first one", first)
		holdRight(t, "the second one", second)
		for mask := range 8 {
			p := twin(first)
			for k := range p.Procs {
				if mask>>k&1 == 1 {
					p.Procs[k].Body = twin(second.Procs[k].Body)
				}
			}
			holdRight(t, "of both", p)
		}
	}
}
