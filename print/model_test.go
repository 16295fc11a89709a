package print_test

import (
	"slices"
	"strconv"
	"strings"

	"umbral/api"
	"umbral/lex"
	"umbral/parse"
	"umbral/tree"
)

// signer writes the signs of any tree, by what its Kinds have, whether the tree is right or not.
type signer struct{ signs []string }

func (w *signer) put(signs ...string) { w.signs = append(w.signs, signs...) }

func (w *signer) program(p api.Program) {
	for _, s := range p.Structs {
		w.put("struct", s.Name, "{")
		w.decls(s.Fields)
		w.put("}")
	}
	w.decls(p.Globals)
	for _, q := range p.Procs {
		w.put("void", q.Name, "(")
		for i, d := range q.Params {
			w.comma(i)
			w.variable(d)
		}
		w.put(")", "{")
		w.decls(q.Locals)
		w.stmts(q.Body)
		w.put("}")
	}
}

func (w *signer) comma(i int) {
	if i > 0 {
		w.put(",")
	}
}

func (w *signer) decls(l []api.Decl) {
	for _, d := range l {
		w.variable(d)
		w.put(";")
	}
}

func (w *signer) variable(d api.Decl) {
	if d.Type == "" {
		w.put("int", d.Name)
	} else {
		w.put(d.Type, "*", d.Name)
	}
}

func (w *signer) stmts(l []api.Stmt) {
	for _, s := range l {
		w.stmt(s)
	}
}

func (w *signer) block(l []api.Stmt) {
	w.put("{")
	w.stmts(l)
	w.put("}")
}

// stmt writes what is of no Kind as a Skip.
func (w *signer) stmt(s api.Stmt) {
	switch s.Kind {
	case api.Set:
		w.path(s.Place)
		w.put("=")
		w.value(s.Value)
	case api.Free:
		w.put("free", "(")
		w.path(s.Place)
		w.put(")")
	case api.Call:
		w.put(s.Name, "(")
		for i, v := range s.Args {
			w.comma(i)
			w.value(v)
		}
		w.put(")")
	case api.If, api.While:
		w.put([]string{"if", "while"}[s.Kind-api.If], "(")
		w.cond(s.Cond)
		w.put(")")
		w.block(s.Then)
		if s.Kind == api.If && s.Both {
			w.put("else")
			w.block(s.Else)
		}
		return
	case api.Block:
		w.block(s.Then)
		return
	}
	w.put(";")
}

func (w *signer) path(p api.Path) {
	w.put(p.Name)
	for _, h := range p.Hops {
		w.put("->", h.Name)
	}
}

func (w *signer) term(t api.Term) {
	if t.Name != "" {
		w.put(t.Name)
	} else {
		w.put(strconv.Itoa(t.N))
	}
}

// value writes what is of no Kind as a Null.
func (w *signer) value(v api.Value) {
	switch v.Kind {
	case api.Way:
		w.path(v.Path)
	case api.Fresh:
		w.put("new", v.Type)
	case api.Input:
		w.put("input")
	case api.Number:
		w.term(v.Left)
	case api.Plus, api.Minus:
		w.term(v.Left)
		w.put([]string{"+", "-"}[v.Kind-api.Plus])
		w.term(v.Right)
	default:
		w.put("null")
	}
}

// cond writes what is of no Kind as a Choice.
func (w *signer) cond(c api.Cond) {
	marks := []string{"==", "!=", "<", ">="}
	if c.Kind < api.Same || c.Kind > api.NotLess {
		w.put("?")
		return
	}
	w.value(c.Left)
	w.put(marks[c.Kind-api.Same])
	w.value(c.Right)
}

// signsOf are the signs of p.
func signsOf(p api.Program) []string {
	w := &signer{}
	w.program(p)
	return w.signs
}

// signsOfList are the signs of l.
func signsOfList(l []api.Stmt) []string {
	w := &signer{}
	w.stmts(l)
	return w.signs
}

// compact is the shortest text of these signs.
func compact(signs []string) string {
	var text strings.Builder
	ahead := ""
	for _, s := range signs {
		if isWord(ahead) && isWord(s) {
			text.WriteByte(' ')
		}
		text.WriteString(s)
		ahead = s
	}
	return text.String()
}

func isWord(s string) bool {
	switch s {
	case "", "->", "==", "!=", ">=", "{", "}", "(", ")", ";", ",", "*", "=", "<", "+", "-", "?":
		return false
	}
	return true
}

// canMake tells whether layer 6 makes p, but for places, of the shortest text that may be p's.
func canMake(p api.Program) bool {
	got, _, err := parse.Program(compact(signsOf(p)))
	return err == api.OK && tree.Same(got, p)
}

// alone is a program of one procedure that has these statements.
func alone(l []api.Stmt) api.Program {
	return api.Program{Procs: []api.Proc{{Name: "p", Body: l}}}
}

// layout writes signs as lines, by the signs alone: what a line ends with, and where blanks stand, as the chapter shows it.
func layout(signs []string) string {
	var text strings.Builder
	open, ahead := 0, ""
	for i, s := range signs {
		if s == "}" {
			open--
		}
		switch {
		case ahead == "" || ahead == "\n":
			text.WriteString(strings.Repeat("  ", open))
		case !tight(ahead, s):
			text.WriteByte(' ')
		}
		text.WriteString(s)
		ahead = s
		if s == "{" {
			open++
		}
		if s == "{" || s == ";" || s == "}" && (i+1 == len(signs) || signs[i+1] != "else") {
			text.WriteByte('\n')
			ahead = "\n"
		}
	}
	return text.String()
}

// tight tells whether no blank stands between two signs of a line.
func tight(a, b string) bool {
	switch {
	case a == "->" || b == "->" || a == "(":
		return true
	case b == "(":
		return a == "free" || !lex.IsKey(a)
	}
	return slices.Contains([]string{")", ";", ",", "*"}, b)
}
