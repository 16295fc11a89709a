package parse_test

import (
	"strconv"

	"umbral/api"
	"umbral/lex"
)

// lot tells numbers by lot, the same ones in each run.
type lot uint64

func (s *lot) below(n int) int {
	*s = *s*6364136223846793005 + 1442695040888963407
	return int(uint64(*s>>33) % uint64(n))
}

func (s *lot) one(of ...string) string { return of[s.below(len(of))] }

// writer writes a text by lot, and tells the tree that it is, with all places.
type writer struct {
	lot
	text  []byte
	left  int // statements that may still be written
	tight bool
}

// put writes a sign, with blanks and remarks ahead of it, and tells its place.
func (w *writer) put(text string) int {
	w.blank()
	if n := len(w.text); n > 0 && isWord(w.text[n-1]) && isWord(text[0]) {
		w.text = append(w.text, ' ')
	}
	w.text = append(w.text, text...)
	return len(w.text) - len(text)
}

func isWord(b byte) bool { return lex.IsName("x" + string(rune(b))) }

func (w *writer) blank() {
	if !w.tight {
		w.text = append(w.text, w.one("", "", "", " ", "\n", "\t", "\r\n", "  ", "// } x\n", "//\n//;\n ")...)
	}
}

func (w *writer) name() string {
	return w.one("x", "y", "t", "n", "_", "x1", "If", "inputs", "a_name_of_16byte")
}

func (w *writer) program() api.Program {
	var p api.Program
	for range w.below(8) {
		switch w.below(3) {
		case 0:
			p.Structs = append(p.Structs, w.structure())
		case 1:
			p.Globals = append(p.Globals, w.decl())
		default:
			p.Procs = append(p.Procs, w.proc())
		}
	}
	w.blank()
	return p
}

func (w *writer) structure() api.Struct {
	w.put("struct")
	s := api.Struct{Name: w.name()}
	s.At = w.put(s.Name)
	w.put("{")
	for range w.below(4) {
		s.Fields = append(s.Fields, w.pointer())
		w.put(";")
	}
	w.put("}")
	return s
}

func (w *writer) decl() api.Decl {
	d := w.variable()
	w.put(";")
	return d
}

func (w *writer) variable() api.Decl {
	if w.below(2) == 0 {
		return w.pointer()
	}
	w.put("int")
	d := api.Decl{Name: w.name()}
	d.At = w.put(d.Name)
	return d
}

func (w *writer) pointer() api.Decl {
	d := api.Decl{Type: w.name(), Name: w.name()}
	w.put(d.Type)
	w.put("*")
	d.At = w.put(d.Name)
	return d
}

func (w *writer) proc() api.Proc {
	w.put("void")
	p := api.Proc{Name: w.name()}
	p.At = w.put(p.Name)
	p.Params = commas(w, w.variable)
	w.put("{")
	for range w.below(4) {
		p.Locals = append(p.Locals, w.decl())
	}
	p.Body = w.stmts(4)
	p.End = w.put("}")
	return p
}

// commas writes items in parentheses.
func commas[T any](w *writer, item func() T) []T {
	w.put("(")
	var all []T
	for i := range w.below(4) {
		if i > 0 {
			w.put(",")
		}
		all = append(all, item())
	}
	w.put(")")
	return all
}

func (w *writer) stmts(deep int) []api.Stmt {
	var all []api.Stmt
	for range w.below(5) {
		if w.left == 0 {
			break
		}
		w.left--
		all = append(all, w.stmt(deep))
	}
	return all
}

func (w *writer) stmt(deep int) api.Stmt {
	kinds := 7
	if deep == 0 {
		kinds = 4
	}
	s := api.Stmt{Kind: w.below(kinds)}
	switch s.Kind {
	case api.Skip:
		s.At = w.put(";")
	case api.Set:
		s.Place = w.path()
		s.At = s.Place.At
		w.put("=")
		s.Value = w.value()
		w.put(";")
	case api.Free:
		s.At = w.put("free")
		w.put("(")
		s.Place = w.path()
		w.put(")")
		w.put(";")
	case api.Call:
		s.Name = w.name()
		s.At = w.put(s.Name)
		s.Args = commas(w, w.side)
		w.put(";")
	default:
		w.nested(&s, deep-1)
	}
	return s
}

// nested writes a statement that holds others.
func (w *writer) nested(s *api.Stmt, deep int) {
	switch s.Kind {
	case api.Block:
		s.At = w.put("{")
		s.Then = w.stmts(deep)
		w.put("}")
		return
	case api.If:
		s.At = w.put("if")
	default:
		s.At = w.put("while")
	}
	w.put("(")
	s.Cond = w.cond()
	w.put(")")
	w.put("{")
	s.Then = w.stmts(deep)
	w.put("}")
	if s.Kind == api.If && w.below(2) == 0 {
		s.Both = true
		w.put("else")
		w.put("{")
		s.Else = w.stmts(deep)
		w.put("}")
	}
}

func (w *writer) path() api.Path {
	p := api.Path{Name: w.name()}
	p.At = w.put(p.Name)
	for range w.below(9) {
		h := api.Hop{Name: w.name()}
		h.At = w.put("->")
		w.put(h.Name)
		p.Hops = append(p.Hops, h)
	}
	return p
}

func (w *writer) term() api.Term {
	if w.below(2) == 0 {
		t := api.Term{Name: w.name()}
		t.At = w.put(t.Name)
		return t
	}
	text := w.one("0", "7", "007", "10", "999999999", "000000000")
	n, _ := strconv.Atoi(text)
	return api.Term{N: n, At: w.put(text)}
}

func (w *writer) value() api.Value {
	v := api.Value{Kind: w.below(7)}
	switch v.Kind {
	case api.Fresh:
		v.At = w.put("new")
		v.Type = w.name()
		w.put(v.Type)
	case api.Input:
		v.At = w.put("input")
	case api.Plus, api.Minus:
		v.Left = w.term()
		v.At = v.Left.At
		w.put([]string{"+", "-"}[v.Kind-api.Plus])
		v.Right = w.term()
	default:
		return w.side()
	}
	return v
}

func (w *writer) side() api.Value {
	switch w.below(3) {
	case 0:
		return api.Value{Kind: api.Null, At: w.put("null")}
	case 1:
		p := w.path()
		return api.Value{Kind: api.Way, At: p.At, Path: p}
	}
	t := w.term()
	if t.Name != "" {
		return api.Value{Kind: api.Way, At: t.At, Path: api.Path{Name: t.Name, At: t.At}}
	}
	return api.Value{Kind: api.Number, At: t.At, Left: t}
}

func (w *writer) cond() api.Cond {
	c := api.Cond{Kind: w.below(5)}
	if c.Kind == api.Choice {
		c.At = w.put("?")
		return c
	}
	c.Left = w.side()
	c.At = c.Left.At
	w.put([]string{"==", "!=", "<", ">="}[c.Kind-api.Same])
	c.Right = w.side()
	return c
}
