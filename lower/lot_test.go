package lower_test

import (
	"reflect"
	"strconv"
	"testing"

	"umbral/api"
	"umbral/parse"
	"umbral/print"
)

// lot tells numbers by lot, the same ones in each run.
type lot uint64

func (s *lot) below(n int) int {
	*s = *s*6364136223846793005 + 1442695040888963407
	return int(uint64(*s>>33) % uint64(n))
}

func one[T any](s *lot, of ...T) T { return of[s.below(len(of))] }

// maker makes right programs by lot. Procedures call those that stand behind them in ranks alone.
type maker struct {
	lot
	great int // how much more of all there is
	left  int // statements that may still be made
	deep  int // blocks that may still stand within each other
	p     api.Program
	ranks []api.Proc
	rank  int
	world *world
	names stand // those of the procedure that is made
}

func (m *maker) structName() string { return m.p.Structs[m.below(len(m.p.Structs))].Name }

// decls are called v and a number: those of procedures hide globals now and then.
func (m *maker) decls(first, count int) []api.Decl {
	var l []api.Decl
	for i := first; i < first+count; i++ {
		l = append(l, api.Decl{Type: one(&m.lot, "", m.structName(), m.structName()), Name: "v" + strconv.Itoa(i)})
	}
	return l
}

// program is one by lot: main's rank is the first one, but not its place.
func (m *maker) program() api.Program {
	for i := range 1 + m.below(3) {
		m.p.Structs = append(m.p.Structs, api.Struct{Name: "s" + strconv.Itoa(i)})
	}
	for i := range m.p.Structs {
		for k := range m.below(3) {
			m.p.Structs[i].Fields = append(m.p.Structs[i].Fields, api.Decl{Type: m.structName(), Name: "n" + strconv.Itoa(k)})
		}
	}
	m.p.Globals = m.decls(0, 2+m.below(5+m.great))
	m.ranks = []api.Proc{{Name: "main", Locals: m.decls(3+m.below(3), m.below(4+m.great))}}
	for i := range m.below(5 + m.great) {
		m.ranks = append(m.ranks, api.Proc{Name: "p" + strconv.Itoa(i), Params: m.decls(m.below(4), m.below(3)), Locals: m.decls(6, m.below(3+m.great))})
	}
	m.world = &world{p: m.p}
	for i := range m.ranks {
		q := &m.ranks[i]
		m.rank = i
		m.names = m.world.with(stand{}, m.world.globals().names, append(append([]api.Decl{}, q.Params...), q.Locals...)...)
		if i == 0 || m.below(3) == 0 {
			q.Body = m.cells()
		}
		q.Body = append(q.Body, m.stmts(3+m.below(6+2*m.great))...)
	}
	turn := m.below(len(m.ranks))
	m.p.Procs = append(append([]api.Proc{}, m.ranks[turn:]...), m.ranks[:turn]...)
	return m.p
}

func (m *maker) stmts(most int) []api.Stmt {
	var all []api.Stmt
	for range m.below(most + 1) {
		if m.left == 0 {
			break
		}
		m.left--
		all = append(all, m.stmt())
	}
	return all
}

// cells puts new cells into some pointers, so that runs come further, and cells into some of their fields.
func (m *maker) cells() []api.Stmt {
	var all []api.Stmt
	for _, v := range m.names.names {
		// Of several of a name all but the first one are hidden.
		if m.left == 0 || m.names.find(v.name) != v || v.kind == ofInt || m.below(4) == 0 {
			continue
		}
		m.left--
		place := api.Path{Name: v.name}
		for _, f := range m.p.Structs[v.kind].Fields {
			if f.Type == m.p.Structs[v.kind].Name && m.below(2) == 0 {
				all = append(all, api.Stmt{Kind: api.Set, Place: place, Value: api.Value{Kind: api.Fresh, Type: f.Type}})
				place.Hops = []api.Hop{{Name: f.Name}}
			}
		}
		all = append(all, api.Stmt{Kind: api.Set, Place: place, Value: api.Value{Kind: api.Fresh, Type: m.p.Structs[v.kind].Name}})
	}
	return all
}

func (m *maker) block() []api.Stmt {
	m.deep--
	defer func() { m.deep++ }()
	return m.stmts(4)
}

func (m *maker) stmt() api.Stmt {
	s := api.Stmt{Kind: one(&m.lot, api.Skip, api.Set, api.Set, api.Set, api.Set, api.Set, api.Free, api.Call, api.Call, api.If, api.While, api.Block)}
	if m.deep == 0 && s.Kind >= api.If {
		s.Kind = api.Set
	}
	switch s.Kind {
	case api.Set:
		return m.set()
	case api.Free:
		w, found := m.path(m.below(len(m.p.Structs)))
		if !found {
			return api.Stmt{}
		}
		s.Place = w
	case api.Call:
		return m.call()
	case api.If, api.While:
		s.Cond, s.Then = m.cond(), m.block()
		if s.Kind == api.If && m.below(2) == 0 {
			s.Both, s.Else = true, m.block()
		}
	case api.Block:
		s.Then = m.block()
	}
	return s
}

func (m *maker) set() api.Stmt {
	kind := m.below(len(m.p.Structs)+1) - 1
	w, found := m.path(kind)
	if !found {
		return api.Stmt{}
	}
	return api.Stmt{Kind: api.Set, Place: w, Value: m.value(kind)}
}

func (m *maker) call() api.Stmt {
	behind := m.ranks[m.rank+1:]
	if len(behind) == 0 {
		return api.Stmt{}
	}
	q := behind[m.below(len(behind))]
	s := api.Stmt{Kind: api.Call, Name: q.Name}
	for _, d := range q.Params {
		s.Args = append(s.Args, m.side(m.world.structNumber(d.Type)))
	}
	return s
}

// path is a right one of a type, if one is found by lot.
func (m *maker) path(kind int) (api.Path, bool) {
	for range 40 {
		w := api.Path{Name: "v" + strconv.Itoa(m.below(9))}
		v := m.names.find(w.Name)
		right := v.number >= 0
		for range m.below(5) {
			h := api.Hop{Name: "n" + strconv.Itoa(m.below(2))}
			f, to := m.world.field(v.kind, h.Name)
			right = right && f >= 0
			v.kind = to
			w.Hops = append(w.Hops, h)
		}
		if right && v.kind == kind {
			return w, true
		}
	}
	return api.Path{}, false
}

func (m *maker) number() api.Term { return api.Term{N: one(&m.lot, 0, 1, 2, api.MaxNumber)} }

// side is a value that may be handed on, and held against others.
func (m *maker) side(kind int) api.Value {
	if w, found := m.path(kind); found && m.below(5) > 0 {
		return api.Value{Kind: api.Way, Path: w}
	}
	if kind == ofInt {
		return api.Value{Kind: api.Number, Left: m.number()}
	}
	return api.Value{}
}

// value is one that may be put somewhere.
func (m *maker) value(kind int) api.Value {
	if m.below(2) == 0 {
		return m.side(kind)
	}
	if kind != ofInt {
		return api.Value{Kind: api.Fresh, Type: m.p.Structs[kind].Name}
	}
	if m.below(2) == 0 {
		return api.Value{Kind: api.Input}
	}
	return api.Value{Kind: one(&m.lot, api.Plus, api.Minus), Left: m.term(), Right: m.term()}
}

func (m *maker) term() api.Term {
	if w, found := m.path(ofInt); found && m.below(3) > 0 {
		return api.Term{Name: w.Name}
	}
	return m.number()
}

func (m *maker) cond() api.Cond {
	c := api.Cond{Kind: m.below(5)}
	if c.Kind == api.Choice {
		return c
	}
	kind := ofInt
	if (c.Kind == api.Same || c.Kind == api.Other) && m.below(5) > 0 {
		kind = m.below(len(m.p.Structs))
	}
	c.Left, c.Right = m.side(kind), m.side(kind)
	return c
}

// made is the program of number i, with the places of its text, and that text.
func made(t *testing.T, i int) (api.Program, string) {
	t.Helper()
	m := &maker{lot: lot(i), great: []int{0, 0, 2, 8}[i%4], left: 5 + i%70 + i%4*50, deep: i % 6}
	text, err := print.Program(m.program())
	if err != api.OK {
		t.Fatalf("%d by lot is not right: %v", i, err)
	}
	p, at, err := parse.Program(text)
	if err != api.OK {
		t.Fatalf("%s: %v at %d", text, err, at)
	}
	return p, text
}

// spread gives all places of a program others by lot, so that no two parts share one.
func spread(s *lot, p api.Program) api.Program {
	p = twin(p)
	turn, step := s.below(65536), 1+2*s.below(32768)
	var look func(v reflect.Value)
	look = func(v reflect.Value) {
		switch v.Kind() {
		case reflect.Struct:
			for i := range v.NumField() {
				if name := v.Type().Field(i).Name; name == "At" || name == "End" {
					turn = (turn + step) % 65536
					v.Field(i).SetInt(int64(turn))
				}
				look(v.Field(i))
			}
		case reflect.Slice:
			for i := range v.Len() {
				look(v.Index(i))
			}
		}
	}
	look(reflect.ValueOf(&p).Elem())
	return p
}

// P13.1, P13.2: programs by lot are held against the model, with places of texts and with others.
func TestByLot(t *testing.T) {
	seen := map[api.Errno]int{}
	kinds := map[int]int{}
	heads, calls := 0, 0
	for i := range 4000 {
		p, text := made(t, i)
		g, err := holdModel(t, text, p)
		s := lot(i)
		holdModel(t, text, spread(&s, p))
		seen[err]++
		for _, e := range g.Edges {
			kinds[e.Act.Kind]++
		}
		heads += len(g.Heads)
		calls += len(p.Procs) - 1
		if t.Failed() {
			return
		}
	}
	if seen[api.OK] < 3000 || seen[api.ErrMany] < 100 || seen[api.OK]+seen[api.ErrMany] < 4000 {
		t.Errorf("by lot came %v, %v, %d", seen, kinds, heads)
	}
	for kind := api.DoSkip; kind <= api.DoTest; kind++ {
		if kinds[kind] < 1000 {
			t.Errorf("by lot kind %d came but %d times", kind, kinds[kind])
		}
	}
	if heads < 1000 || calls < 1000 {
		t.Errorf("by lot came %d heads, %d procedures", heads, calls)
	}
}
