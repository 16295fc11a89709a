package print

import (
	"umbral/api"
	"umbral/lex"
	"umbral/tree"
)

// Right tells whether a text may be read as p, but for places.
func Right(p api.Program) bool {
	_, err := Program(p)
	return err == api.OK
}

// least tells how long the shortest text is that has the same signs: blanks stand between words alone.
// A tree whose shortest text is too long is none that may be read, however right its parts are.
func least(text string) int {
	sum, word := 0, false
	for at := 0; ; {
		sign, behind, _ := lex.Next(text, at)
		if sign.Kind == lex.End {
			return sum
		}
		ahead := word
		word = sign.Kind != lex.Mark
		if ahead && word {
			sum++
		}
		sum += len(sign.Text)
		at = behind
	}
}

// judge goes over a program, and counts what there may be but so much of.
type judge struct {
	seen int // the statements so far
	open int // the blocks around
}

// all tells whether each item of a list is right.
// It stops at the first one that is not: a list that holds itself has too many statements, but no end.
func all[T any](list []T, right func(item *T) bool) bool {
	for i := range list {
		if !right(&list[i]) {
			return false
		}
	}
	return true
}

// hasForm tells whether p is as the trees are that texts are read as, however long its text is.
func hasForm(p api.Program) bool {
	j := &judge{}
	return all(p.Structs, isStruct) && all(p.Globals, isDecl) && all(p.Procs, j.proc)
}

func isStruct(s *api.Struct) bool { return lex.IsName(s.Name) && all(s.Fields, isPointer) }

func isPointer(d *api.Decl) bool { return lex.IsName(d.Type) && lex.IsName(d.Name) }

func isDecl(d *api.Decl) bool {
	return isPointer(d) || d.Type == "" && lex.IsName(d.Name)
}

func (j *judge) proc(p *api.Proc) bool {
	return lex.IsName(p.Name) && all(p.Params, isDecl) && all(p.Locals, isDecl) && all(p.Body, j.stmt)
}

func (j *judge) stmt(s *api.Stmt) bool {
	if j.seen == api.MaxStmts {
		return false
	}
	j.seen++
	return isNothing(besides(*s)) && j.parts(s)
}

// isNothing tells whether s is zero, but for places.
func isNothing(s api.Stmt) bool {
	return tree.SameList([]api.Stmt{{}}, []api.Stmt{s})
}

// besides is s without its Kind and what that has.
func besides(s api.Stmt) api.Stmt {
	switch s.Kind {
	case api.Set:
		s.Place, s.Value = api.Path{}, api.Value{}
	case api.Free:
		s.Place = api.Path{}
	case api.Call:
		s.Name, s.Args = "", nil
	case api.If:
		s.Cond, s.Then = api.Cond{}, nil
		if s.Both {
			s.Else, s.Both = nil, false
		}
	case api.While:
		s.Cond, s.Then = api.Cond{}, nil
	case api.Block:
		s.Then = nil
	}
	s.Kind = 0
	return s
}

// parts tells whether what the Kind of s has is right, and whether there is such a Kind.
func (j *judge) parts(s *api.Stmt) bool {
	switch s.Kind {
	case api.Skip:
		return true
	case api.Set:
		return isPath(&s.Place) && isValue(&s.Value)
	case api.Free:
		return isPath(&s.Place)
	case api.Call:
		return lex.IsName(s.Name) && all(s.Args, isSide)
	case api.If:
		return isCond(&s.Cond) && j.block(s.Then) && (!s.Both || j.block(s.Else))
	case api.While:
		return isCond(&s.Cond) && j.block(s.Then)
	case api.Block:
		return j.block(s.Then)
	}
	return false
}

// block tells whether there is room for one more block within the others, and whether its statements are right.
func (j *judge) block(list []api.Stmt) bool {
	if j.open == api.MaxDeep {
		return false
	}
	j.open++
	right := all(list, j.stmt)
	j.open--
	return right
}

func isPath(w *api.Path) bool {
	return lex.IsName(w.Name) && len(w.Hops) <= api.MaxHops && all(w.Hops, isHop)
}

func isHop(h *api.Hop) bool { return lex.IsName(h.Name) }

func isNumber(n int) bool { return n >= 0 && n <= api.MaxNumber }

func isTerm(t *api.Term) bool {
	if t.Name == "" {
		return isNumber(t.N)
	}
	return lex.IsName(t.Name) && t.N == 0
}

// isValue tells whether v is right where something is put somewhere.
func isValue(v *api.Value) bool {
	rest, right := *v, true // the rest is v without its Kind and what that has
	rest.Kind = 0
	switch v.Kind {
	case api.Null, api.Input:
	case api.Way:
		rest.Path = api.Path{}
		right = isPath(&v.Path)
	case api.Fresh:
		rest.Type = ""
		right = lex.IsName(v.Type)
	case api.Number:
		rest.Left.N = 0
		right = isNumber(v.Left.N)
	case api.Plus, api.Minus:
		rest.Left, rest.Right = api.Term{}, api.Term{}
		right = isTerm(&v.Left) && isTerm(&v.Right)
	default:
		return false
	}
	return right && isNothing(api.Stmt{Value: rest})
}

// isSide tells whether v is right where it is handed on, or held against another one.
func isSide(v *api.Value) bool {
	switch v.Kind {
	case api.Null, api.Way, api.Number:
		return isValue(v)
	}
	return false
}

func isCond(c *api.Cond) bool {
	switch c.Kind {
	case api.Choice:
		return isNothing(api.Stmt{Cond: *c})
	case api.Same, api.Other, api.Less, api.NotLess:
		return isSide(&c.Left) && isSide(&c.Right)
	}
	return false
}
