package check_test

import (
	"slices"
	"strconv"
	"testing"

	"umbral/api"
	"umbral/check"
	"umbral/print"
)

// lot tells numbers by lot, the same ones in each run.
type lot uint64

func (s *lot) below(n int) int {
	*s = *s*6364136223846793005 + 1442695040888963407
	return int(uint64(*s>>33) % uint64(n))
}

func one[T any](s *lot, of ...T) T { return of[s.below(len(of))] }

// maker makes programs by lot: right ones, but for one of odds things.
type maker struct {
	lot
	odds int
	left int // statements that may still be made
	deep int // blocks that may still stand within each other
	p    api.Program
	q    api.Proc // the one whose statements are made
}

// isOdd tells whether what is made next may be wrong.
func (m *maker) isOdd() bool { return m.odds > 0 && m.below(m.odds) == 0 }

func (m *maker) structName() string {
	return m.p.Structs[m.below(len(m.p.Structs))].Name
}

// frame makes the names of a program: parameters and locals hide globals now and then.
func (m *maker) frame() {
	m.p = api.Program{}
	for i := range 1 + m.below(3) {
		m.p.Structs = append(m.p.Structs, api.Struct{Name: "s" + strconv.Itoa(i)})
	}
	for i := range m.p.Structs {
		for k := range m.below(3) {
			m.p.Structs[i].Fields = append(m.p.Structs[i].Fields, api.Decl{Type: m.structName(), Name: "n" + strconv.Itoa(k)})
		}
	}
	m.p.Globals = m.decls(0, 2+m.below(4))
	main := m.below(3)
	for i := range 3 {
		q := api.Proc{Name: "p" + strconv.Itoa(i), Params: m.decls(m.below(2), m.below(3))}
		if i == main {
			q.Name, q.Params = "main", nil
		}
		q.Locals = m.decls(3+m.below(3), m.below(4))
		m.p.Procs = append(m.p.Procs, q)
	}
}

func (m *maker) decls(first, count int) []api.Decl {
	var l []api.Decl
	for i := first; i < first+count; i++ {
		l = append(l, api.Decl{Type: one(&m.lot, "", m.structName()), Name: "v" + strconv.Itoa(i)})
	}
	return l
}

func (m *maker) program() api.Program {
	m.frame()
	for i := range m.p.Procs {
		m.q = m.p.Procs[i]
		m.p.Procs[i].Body = m.stmts()
	}
	if m.isOdd() {
		m.p.Procs[m.below(3)].Name = one(&m.lot, "main", "none", "p0")
	}
	if m.isOdd() {
		m.p.Procs[m.below(3)].Params = []api.Decl{{Name: "v0"}}
	}
	return twin(m.p)
}

func (m *maker) stmts() []api.Stmt {
	var all []api.Stmt
	for range m.below(6) {
		if m.left == 0 {
			break
		}
		m.left--
		all = append(all, m.stmt())
	}
	return all
}

func (m *maker) block() []api.Stmt {
	m.deep--
	defer func() { m.deep++ }()
	return m.stmts()
}

func (m *maker) stmt() api.Stmt {
	s := api.Stmt{Kind: one(&m.lot, api.Skip, api.Set, api.Set, api.Free, api.Call, api.If, api.While, api.Block)}
	if m.deep == 0 && s.Kind >= api.If {
		s.Kind = api.Set
	}
	switch s.Kind {
	case api.Set:
		s.Place = m.anyPath()
		kind, _ := world{m.p, m.q}.path(s.Place)
		s.Value = m.value(kind)
	case api.Free:
		place, found := m.path(m.below(len(m.p.Structs)))
		if !found && !m.isOdd() {
			return api.Stmt{}
		}
		s.Place = place
	case api.Call:
		return m.call()
	case api.If, api.While:
		s.Cond, s.Then = m.cond(), m.block()
		if s.Kind == api.If && m.below(2) == 0 {
			s.Both, s.Else = true, m.block()
		}
	case api.Block:
		s.Then = m.block()
	}
	return s
}

// call is one of a procedure that is not main.
func (m *maker) call() api.Stmt {
	q := m.p.Procs[m.below(3)]
	if q.Name == "main" && !m.isOdd() {
		return api.Stmt{}
	}
	s := api.Stmt{Kind: api.Call, Name: q.Name}
	for _, d := range q.Params {
		s.Args = append(s.Args, m.side(world{m.p, m.q}.structNumber(d.Type)))
	}
	if m.isOdd() {
		s.Args = append(s.Args, m.side(ofInt))
	}
	if m.isOdd() {
		s.Name = one(&m.lot, "p0", "p1", "p2", "main", "v0", "none")
	}
	return s
}

// anyPath is right, but may be of any type; an odd one may be wrong.
func (m *maker) anyPath() api.Path {
	for range 50 {
		if w := m.walk(); m.isRight(w) || m.isOdd() {
			return w
		}
	}
	return api.Path{Name: slices.Concat(m.q.Params, m.q.Locals, m.p.Globals)[0].Name}
}

func (m *maker) walk() api.Path {
	w := api.Path{Name: "v" + strconv.Itoa(m.below(8))}
	for range m.below(4) {
		w.Hops = append(w.Hops, api.Hop{Name: "n" + strconv.Itoa(m.below(4))})
	}
	return w
}

func (m *maker) isRight(w api.Path) bool {
	_, wrong := world{m.p, m.q}.path(w)
	return wrong == fault{}
}

// path is a right one of a type, if there is one that is found by lot; an odd one may be of another type.
func (m *maker) path(kind int) (api.Path, bool) {
	for range 50 {
		w := m.walk()
		got, wrong := world{m.p, m.q}.path(w)
		if wrong == (fault{}) && got == kind || m.isOdd() && m.isOdd() {
			return w, true
		}
	}
	return api.Path{Name: "v0"}, false
}

func (m *maker) number() api.Value {
	return api.Value{Kind: api.Number, Left: api.Term{N: one(&m.lot, 0, 1, 7, api.MaxNumber)}}
}

// side is a value of a type that may be handed on.
func (m *maker) side(kind int) api.Value {
	if m.isOdd() {
		kind = m.below(len(m.p.Structs)+1) - 1
	}
	w, found := m.path(kind)
	if found && m.below(3) > 0 {
		return api.Value{Kind: api.Way, Path: w}
	}
	if kind == ofInt {
		return m.number()
	}
	return api.Value{}
}

// value is one of a type that may be put somewhere.
func (m *maker) value(kind int) api.Value {
	if m.isOdd() {
		kind = m.below(len(m.p.Structs)+1) - 1
	}
	if m.below(2) == 0 {
		return m.side(kind)
	}
	if kind != ofInt {
		return api.Value{Kind: api.Fresh, Type: m.fresh(kind)}
	}
	if m.below(3) == 0 {
		return api.Value{Kind: api.Input}
	}
	return api.Value{Kind: one(&m.lot, api.Plus, api.Minus), Left: m.term(), Right: m.term()}
}

func (m *maker) fresh(kind int) string {
	if m.isOdd() {
		return one(&m.lot, m.structName(), "none", "v0", "p0")
	}
	return m.p.Structs[kind].Name
}

func (m *maker) term() api.Term {
	if w, found := m.path(ofInt); found && len(w.Hops) == 0 && m.below(3) > 0 {
		return api.Term{Name: w.Name}
	}
	return m.number().Left
}

func (m *maker) cond() api.Cond {
	c := api.Cond{Kind: m.below(5)}
	if c.Kind == api.Choice {
		return c
	}
	kind := ofInt
	if (c.Kind == api.Same || c.Kind == api.Other) && m.below(3) > 0 || m.isOdd() {
		kind = m.below(len(m.p.Structs))
	}
	c.Left, c.Right = m.side(kind), m.side(kind)
	return c
}

// P9.2: programs by lot are held against the model; all errors come often enough.
func TestCheckByLot(t *testing.T) {
	seen := map[api.Errno]int{}
	for i := range 6000 {
		m := &maker{lot: lot(i), odds: []int{0, 15, 60, 300}[i%4], left: 5 + i%60, deep: i % 7}
		p := m.program()
		if i%3 > 0 {
			p = spread(p, 1000, 3-2*(i%3))
		}
		got := holdCheck(t, "one by lot", p)
		seen[got.err]++
		if m.odds == 0 && got != (fault{}) {
			text, _ := print.Program(p)
			t.Fatalf("made right by lot %d: %v\n%s", i, got, text)
		}
	}
	for _, err := range []api.Errno{api.OK, api.ErrNone, api.ErrType, api.ErrTwice} {
		if seen[err] < 30 {
			t.Errorf("by lot %v came but %d times: %v", err, seen[err], seen)
		}
	}
}

// P9.1: paths by lot, of procedures by lot, are held against the model.
func TestPathByLot(t *testing.T) {
	seen := map[api.Errno]int{}
	for i := range 300 {
		m := &maker{lot: lot(i)}
		m.frame()
		x := table(t, m.p)
		for _, q := range m.p.Procs {
			for range 50 {
				w := spreadPath(m.walk(), 10+m.below(5), one(&m.lot, 1, -1, 7))
				kind, wrong := world{m.p, q}.path(w)
				seen[wrong.err]++
				holdPath(t, "one by lot", x, q, w, told{kind, wrong.at, wrong.err})
			}
		}
	}
	for _, err := range []api.Errno{api.OK, api.ErrNone, api.ErrType} {
		if seen[err] < 1000 {
			t.Errorf("by lot %v came but %d times: %v", err, seen[err], seen)
		}
	}
}

func spreadPath(w api.Path, first, step int) api.Path {
	w.At = first
	for i := range w.Hops {
		w.Hops[i].At = first + step*(i+1)
	}
	return w
}

// R4: asked again Check tells the same, whatever was asked between.
func TestCheckAskedAgain(t *testing.T) {
	right, _ := read(t, within("x = y->o;"))
	wrong, at := read(t, within("x = #y;"))
	for range 3 {
		holdRight(t, "a right one", right)
		holdWrong(t, "a wrong one", wrong, at, api.ErrType)
		if got, err := check.Check(api.Program{}); got != 0 || err != api.ErrNone {
			t.Errorf("nothing: %d, %v", got, err)
		}
	}
}
