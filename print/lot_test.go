package print_test

import (
	"math"
	"reflect"
	"strconv"
	"strings"
	"testing"

	"umbral/api"
	"umbral/parse"
	"umbral/print"
	"umbral/tree"
)

// lot tells numbers by lot, the same ones in each run.
type lot uint64

func (s *lot) below(n int) int {
	*s = *s*6364136223846793005 + 1442695040888963407
	return int(uint64(*s>>33) % uint64(n))
}

func one[T any](s *lot, of ...T) T { return of[s.below(len(of))] }

// maker makes programs by lot that are right.
type maker struct {
	lot
	left int // statements that may still be made
	deep int // blocks that may still stand within each other
}

func some[T any](s *lot, most int, item func() T) []T {
	var all []T
	for range s.below(most + 1) {
		all = append(all, item())
	}
	return all
}

func (m *maker) name() string {
	return one(&m.lot, "x", "y", "t", "n", "p", "main", "_", "x1", "If", "inputs", "nulls", "a_name_of_16byte")
}

func (m *maker) number() int {
	return one(&m.lot, 0, 1, 7, 10, 999, api.MaxNumber-1, api.MaxNumber)
}

func (m *maker) program() api.Program {
	return api.Program{
		Structs: some(&m.lot, 3, func() api.Struct {
			return api.Struct{Name: m.name(), Fields: some(&m.lot, 3, m.pointer)}
		}),
		Globals: some(&m.lot, 3, m.decl),
		Procs: some(&m.lot, 3, func() api.Proc {
			return api.Proc{Name: m.name(), Params: some(&m.lot, 3, m.decl), Locals: some(&m.lot, 3, m.decl), Body: m.stmts()}
		}),
	}
}

func (m *maker) pointer() api.Decl { return api.Decl{Type: m.name(), Name: m.name()} }

func (m *maker) decl() api.Decl {
	if m.below(2) == 0 {
		return api.Decl{Name: m.name()}
	}
	return m.pointer()
}

func (m *maker) stmts() []api.Stmt {
	var all []api.Stmt
	for range m.below(5) {
		if m.left == 0 {
			break
		}
		m.left--
		all = append(all, m.stmt())
	}
	return all
}

func (m *maker) block() []api.Stmt {
	m.deep--
	defer func() { m.deep++ }()
	return m.stmts()
}

func (m *maker) stmt() api.Stmt {
	kinds := 7
	if m.deep == 0 {
		kinds = 4
	}
	s := api.Stmt{Kind: m.below(kinds)}
	switch s.Kind {
	case api.Set:
		s.Place, s.Value = m.path(), m.value()
	case api.Free:
		s.Place = m.path()
	case api.Call:
		s.Name, s.Args = m.name(), some(&m.lot, 3, m.side)
	case api.If, api.While:
		s.Cond, s.Then = m.cond(), m.block()
		if s.Kind == api.If && m.below(2) == 0 {
			s.Both, s.Else = true, m.block()
		}
	case api.Block:
		s.Then = m.block()
	}
	return s
}

func (m *maker) path() api.Path {
	return api.Path{Name: m.name(), Hops: some(&m.lot, one(&m.lot, 0, 1, 8), func() api.Hop { return api.Hop{Name: m.name()} })}
}

func (m *maker) term() api.Term {
	if m.below(2) == 0 {
		return api.Term{Name: m.name()}
	}
	return api.Term{N: m.number()}
}

func (m *maker) value() api.Value {
	v := api.Value{Kind: m.below(7)}
	switch v.Kind {
	case api.Way:
		v.Path = m.path()
	case api.Fresh:
		v.Type = m.name()
	case api.Number:
		v.Left.N = m.number()
	case api.Plus, api.Minus:
		v.Left, v.Right = m.term(), m.term()
	}
	return v
}

func (m *maker) side() api.Value {
	for {
		if v := m.value(); v.Kind == api.Null || v.Kind == api.Way || v.Kind == api.Number {
			return v
		}
	}
}

func (m *maker) cond() api.Cond {
	c := api.Cond{Kind: m.below(5)}
	if c.Kind != api.Choice {
		c.Left, c.Right = m.side(), m.side()
	}
	return c
}

// visit goes over all things within v that are no structs, lists too, with the way to each.
func visit(v reflect.Value, way string, see func(v reflect.Value, way string)) {
	switch v.Kind() {
	case reflect.Struct:
		for i := range v.NumField() {
			visit(v.Field(i), way+"."+v.Type().Field(i).Name, see)
		}
		return
	case reflect.Slice:
		for i := range v.Len() {
			visit(v.Index(i), way+"["+strconv.Itoa(i)+"]", see)
		}
	}
	see(v, way)
}

func visitAll[T any](x *T, see func(v reflect.Value, way string)) {
	visit(reflect.ValueOf(x).Elem(), "", see)
}

// isPlace tells whether what that way leads to is a place.
func isPlace(way string) bool { return strings.HasSuffix(way, ".At") || strings.HasSuffix(way, ".End") }

// placed gives p places by lot, those of what it does not have too.
func placed[T any](x *T, s *lot) {
	visitAll(x, func(v reflect.Value, way string) {
		if isPlace(way) {
			v.SetInt(int64(one(s, 0, 1, -1, s.below(1000), 65536, math.MaxInt, math.MinInt)))
		}
	})
}

// spoilt are names that may not be, and a few that may.
func spoilt() []string {
	return []string{"", " ", "1", "1x", "x y", "x ", " x", "x//", "x->n", "x;", "x-", "x\n", "x\x00", "\xff", "é", "xé", "x(", "{", "?", "7", "-1", "x,y",
		"struct", "int", "void", "null", "new", "free", "if", "else", "while", "input", "abcdefghijklmnopq", "abcdefghijklmnop", "_", "Null", "x9"}
}

// changes tells other things that v may be, each unlike v.
func changes(v reflect.Value) []reflect.Value {
	var out []reflect.Value
	switch v.Kind() {
	case reflect.Int:
		for _, n := range []int{0, 1, 2, 3, 4, 5, 6, 7, 8, -1, int(v.Int()) + 1, api.MaxNumber, api.MaxNumber + 1, math.MaxInt, math.MinInt} {
			if n != int(v.Int()) {
				out = append(out, reflect.ValueOf(n))
			}
		}
	case reflect.String:
		for _, s := range append(spoilt(), v.String()+"_", "\xff"+v.String()) {
			if s != v.String() {
				out = append(out, reflect.ValueOf(s))
			}
		}
	case reflect.Bool:
		out = append(out, reflect.ValueOf(!v.Bool()))
	case reflect.Slice:
		n := v.Len()
		out = append(out, reflect.Append(v.Slice3(0, n, n), reflect.Zero(v.Type().Elem())))
		if n > 0 {
			out = append(out, reflect.Append(v.Slice3(0, n, n), v.Index(n-1)), v.Slice(0, n-1), v.Slice(1, n), reflect.Zero(v.Type()))
		}
	}
	return out
}

// whole writes all that v has behind text, the room behind its lists' ends too.
func whole(text []byte, v reflect.Value) []byte {
	switch v.Kind() {
	case reflect.Struct:
		for i := range v.NumField() {
			text = whole(text, v.Field(i))
		}
	case reflect.Slice:
		text = append(strconv.AppendInt(text, int64(v.Len()), 10), '[')
		for i := range v.Cap() {
			text = whole(text, v.Slice(0, v.Cap()).Index(i))
		}
		text = append(text, ']')
	case reflect.Int:
		text = append(strconv.AppendInt(text, v.Int(), 10), ' ')
	case reflect.Bool:
		text = strconv.AppendBool(text, v.Bool())
	case reflect.String:
		text = strconv.AppendQuote(text, v.String())
	}
	return text
}

func allOf[T any](x T) string { return string(whole(nil, reflect.ValueOf(x))) }

// held holds all calls against the model: of p, and of its first procedure's Body.
func held(t *testing.T, what string, p api.Program) bool {
	t.Helper()
	before := allOf(p)
	want := canMake(p)
	if got := print.Right(p); got != want {
		t.Errorf("Right, %s: %v\n%+v", what, got, p)
	}
	text, err := print.Program(p)
	answers(t, "Program, "+what, text, err, want, signsOf(p))
	if len(p.Procs) > 0 {
		l := p.Procs[0].Body
		text, err := print.Stmts(l)
		answers(t, "Stmts, "+what, text, err, canMake(alone(l)), signsOfList(l))
	}
	if allOf(p) != before {
		t.Errorf("%s: what is handed in is changed", what)
	}
	return want
}

func answers(t *testing.T, what string, text string, err api.Errno, right bool, signs []string) {
	t.Helper()
	want, wantErr := "", api.ErrBad
	if right {
		want, wantErr = layout(signs), api.OK
	}
	if text != want || err != wantErr {
		t.Errorf("%s: %v, want %v\n%s\nwant\n%s", what, err, wantErr, short(text), short(want))
	}
}

// short is a text that one can read, however long it is.
func short(s string) string {
	if len(s) > 3000 {
		return s[:3000] + ".."
	}
	return s
}

// readAgain holds that what is printed is read as it was, but for places, and that what was read is Right and printed alike.
func readAgain(t *testing.T, p api.Program) {
	t.Helper()
	text, _ := print.Program(p)
	got, at, err := parse.Program(text)
	if err != api.OK || !tree.Same(got, p) {
		t.Fatalf("read again: %d, %v\n%s", at, err, short(text))
	}
	if again, err := print.Program(got); again != text || err != api.OK || !print.Right(got) {
		t.Errorf("printed again: %v\n%s\nwant\n%s", err, short(again), short(text))
	}
	for _, q := range p.Procs {
		lines, _ := print.Stmts(q.Body)
		list, at, err := parse.Stmts(lines)
		if err != api.OK || !tree.SameList(list, q.Body) {
			t.Fatalf("statements read again: %d, %v\n%s", at, err, short(lines))
		}
		if again, err := print.Stmts(list); again != lines || err != api.OK {
			t.Errorf("statements printed again: %v\n%s\nwant\n%s", err, short(again), short(lines))
		}
	}
}

// TestByLot: P7.1 to P7.4: programs by lot that are right, with places by lot.
func TestByLot(t *testing.T) {
	for i := range 1500 {
		m := &maker{lot: lot(i), left: 20 + i%381, deep: i % 21}
		p := m.program()
		if i%2 == 0 {
			placed(&p, &m.lot)
		}
		if !held(t, "by lot "+strconv.Itoa(i), p) {
			t.Fatalf("by lot %d: the model takes it for wrong", i)
		}
		readAgain(t, p)
	}
}

// TestChangedByLot: P7.1 to P7.3: the same with a few things in them changed.
func TestChangedByLot(t *testing.T) {
	right := 0
	for i := range 4000 {
		m := &maker{lot: lot(i), left: 10 + i%30, deep: i % 6}
		p := m.program()
		for range 1 + m.below(2) {
			var found []reflect.Value
			visitAll(&p, func(v reflect.Value, way string) {
				if !isPlace(way) {
					found = append(found, v)
				}
			})
			v := one(&m.lot, found...)
			v.Set(one(&m.lot, changes(v)...))
		}
		if held(t, "changed by lot "+strconv.Itoa(i), p) {
			right++
			readAgain(t, p)
		}
	}
	if right < 100 || right > 3900 {
		t.Errorf("%d are right", right)
	}
}

// TestRead: P7.4: what was read is Right, however it was written.
func TestRead(t *testing.T) {
	for i := range 500 {
		m := &maker{lot: lot(i), left: 60, deep: 5}
		p := m.program()
		var text strings.Builder
		for _, s := range signsOf(p) {
			text.WriteString(s + one(&m.lot, " ", "\n", "\t ", "// }\n", "\r\n//\n"))
		}
		got, _, err := parse.Program(text.String())
		if err != api.OK || !print.Right(got) {
			t.Fatalf("%v: not Right as it was read: %s", err, short(text.String()))
		}
		want, _ := print.Program(p)
		if lines, _ := print.Program(got); lines != want {
			t.Errorf("%s\nwant\n%s", short(lines), short(want))
		}
	}
}

// TestEachChange: P7.1: of a program with all forms each thing alone is changed.
func TestEachChange(t *testing.T) {
	p := rich(t)
	readAgain(t, p)
	seen, tried, right := 0, 0, 0
	visitAll(&p, func(v reflect.Value, way string) {
		seen++
		was := reflect.New(v.Type()).Elem()
		was.Set(v)
		for i, change := range changes(v) {
			if (v.Kind() == reflect.String || isPlace(way)) && i%9 != seen%9 { // TestNames tries all names
				continue
			}
			v.Set(change)
			tried++
			if held(t, way+" "+strconv.Itoa(i), p) {
				right++
			} else if isPlace(way) {
				t.Errorf("%s is a place", way)
			}
			v.Set(was)
		}
	})
	if tried < 5000 || right < 1000 || right > tried-1000 {
		t.Errorf("%d of %d are right", right, tried)
	}
	held(t, "not changed", p)
}

// rich is a program with all forms of the grammar.
func rich(t *testing.T) api.Program {
	p, at, err := parse.Program(richText)
	if err != api.OK {
		t.Fatalf("%d, %v", at, err)
	}
	return p
}
