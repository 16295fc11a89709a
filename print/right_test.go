package print_test

import (
	"math"
	"reflect"
	"slices"
	"strconv"
	"strings"
	"testing"

	"umbral/api"
	"umbral/lex"
	"umbral/parse"
	"umbral/print"
)

// judged holds a program against whether it is to be right; of one that is not no text is told.
func judged(t *testing.T, what string, p api.Program, want bool) {
	t.Helper()
	if got := print.Right(p); got != want {
		t.Errorf("Right, %s: %v", what, got)
	}
	text, err := print.Program(p)
	if err == api.OK != want || err != api.OK && (err != api.ErrBad || text != "") {
		t.Errorf("Program, %s: %v, %q", what, err, short(text))
	}
}

// judgedList is judged, of statements, as they are and as a procedure's.
func judgedList(t *testing.T, what string, l []api.Stmt, want bool) {
	t.Helper()
	judged(t, what, alone(l), want)
	text, err := print.Stmts(l)
	if err == api.OK != want || err != api.OK && (err != api.ErrBad || text != "") {
		t.Errorf("Stmts, %s: %v, %q", what, err, short(text))
	}
}

// naming are programs that have this name at one place each.
func naming(s string) []api.Program {
	var all []api.Program
	for _, d := range []api.Decl{{Name: s}, {Type: "t", Name: s}} {
		all = append(all, api.Program{Globals: []api.Decl{d}},
			api.Program{Procs: []api.Proc{{Name: "p", Params: []api.Decl{{Name: "a"}, d}}}},
			api.Program{Procs: []api.Proc{{Name: "p", Locals: []api.Decl{d}}}})
	}
	all = append(all, api.Program{Structs: []api.Struct{{Name: s}}}, api.Program{Procs: []api.Proc{{Name: s}}})
	for _, d := range []api.Decl{{Type: "t", Name: s}, {Type: s, Name: "n"}} {
		all = append(all, api.Program{Structs: []api.Struct{{Name: "t", Fields: []api.Decl{{Type: "t", Name: "n"}, d}}}})
	}
	for _, stmt := range []api.Stmt{
		{Kind: api.Set, Place: name(s)}, {Kind: api.Set, Place: hops("x", "n", s)}, {Kind: api.Free, Place: name(s)}, {Kind: api.Free, Place: hops("x", s)},
		{Kind: api.Call, Name: s}, {Kind: api.Call, Name: "p", Args: []api.Value{way(s)}}, {Kind: api.Call, Name: "p", Args: []api.Value{{}, way("x", s)}},
		set(way(s)), set(way("x", s)), set(way("x", s, "n")), set(api.Value{Kind: api.Fresh, Type: s}),
		branch(api.Same, way(s), way("x")), branch(api.Less, way("x"), way("x", s)),
	} {
		all = append(all, alone([]api.Stmt{stmt}), alone([]api.Stmt{{Kind: api.Block, Then: []api.Stmt{{}, stmt}}}))
	}
	return all
}

// typing are programs in which this text may also be empty.
func typing(s string) []api.Program {
	d := api.Decl{Type: s, Name: "x"}
	v := api.Term{Name: s}
	return []api.Program{
		{Globals: []api.Decl{d}}, {Procs: []api.Proc{{Name: "p", Params: []api.Decl{d}}}}, {Procs: []api.Proc{{Name: "p", Locals: []api.Decl{d}}}},
		alone([]api.Stmt{set(api.Value{Kind: api.Plus, Left: v})}), alone([]api.Stmt{set(api.Value{Kind: api.Plus, Right: v})}),
		alone([]api.Stmt{set(api.Value{Kind: api.Minus, Left: v})}), alone([]api.Stmt{set(api.Value{Kind: api.Minus, Right: v})}),
	}
}

// TestNames: P7.1: names that may be and such that may not, wherever one stands.
func TestNames(t *testing.T) {
	may := []string{"x", "_", "Z9", "abcdefghijklmnop", "inputs", "Null", "main", "iff", "a", "z", "A", "Z", "__1"}
	not := []string{"1", "9x", "x y", "x ", " x", "\tx", "x\n", "x->n", "x-y", "x;", "x//", "é", "xé", "\xff", "x\xff", "x\x00", "\x00", "-", "{", "x{", "?",
		"abcdefghijklmnopq", strings.Repeat("x", 100), "struct", "int", "void", "null", "new", "free", "if", "else", "while", "input", "@", "[", "`", "x:", "x/"}
	for _, s := range may {
		for i, p := range append(naming(s), typing(s)...) {
			judged(t, "name "+s+" at "+strconv.Itoa(i), p, true)
			readAgain(t, p)
		}
	}
	for _, s := range not {
		for i, p := range append(naming(s), typing(s)...) {
			judged(t, "name "+strconv.Quote(s)+" at "+strconv.Itoa(i), p, false)
		}
	}
	for i, p := range naming("") {
		judged(t, "no name at "+strconv.Itoa(i), p, false)
	}
	for i, p := range typing("") {
		judged(t, "no text at "+strconv.Itoa(i), p, true)
	}
}

// TestEachByte: P7.1: names of one byte, and of a letter and one byte.
func TestEachByte(t *testing.T) {
	for b := range 256 {
		first, second := string([]byte{byte(b)}), string([]byte{'x', byte(b)})
		judged(t, strconv.Quote(first), api.Program{Globals: []api.Decl{{Name: first}}}, lex.IsName(first))
		judged(t, strconv.Quote(second), api.Program{Globals: []api.Decl{{Type: second, Name: second}}}, lex.IsName(second))
	}
}

// TestNumbers: P7.1: numbers at their ends, wherever one may stand.
func TestNumbers(t *testing.T) {
	for n, want := range map[int]bool{0: true, 1: true, 10: true, 999999998: true, 999999999: true,
		1000000000: false, 1000000001: false, -1: false, -999999999: false, math.MaxInt: false, math.MinInt: false, 1 << 32: false, 1<<32 + 7: false} {
		term := api.Term{N: n}
		for i, s := range []api.Stmt{set(number(n)), {Kind: api.Call, Name: "p", Args: []api.Value{number(n)}},
			branch(api.Same, number(n), way("x")), branch(api.NotLess, way("x"), number(n)),
			set(api.Value{Kind: api.Plus, Left: term}), set(api.Value{Kind: api.Plus, Right: term}),
			set(api.Value{Kind: api.Minus, Left: term}), set(api.Value{Kind: api.Minus, Right: term})} {
			judgedList(t, "number "+strconv.Itoa(n)+" at "+strconv.Itoa(i), []api.Stmt{s}, want)
		}
		for i, s := range []api.Stmt{set(api.Value{Kind: api.Plus, Left: api.Term{Name: "x", N: n}}), set(api.Value{Kind: api.Minus, Right: api.Term{Name: "x", N: n}})} {
			judgedList(t, "a name, and number "+strconv.Itoa(n)+" at "+strconv.Itoa(i), []api.Stmt{s}, n == 0)
		}
	}
}

// TestFields: P7.1: fields have Types; other variables need none.
func TestFields(t *testing.T) {
	for _, d := range []api.Decl{{Name: "n"}, {Type: "t"}, {}} {
		for _, l := range [][]api.Decl{{d}, {{Type: "t", Name: "m"}, d}, {d, {Type: "t", Name: "m"}}} {
			judged(t, "a field", api.Program{Structs: []api.Struct{{Name: "t", Fields: l}}}, false)
			judged(t, "a second struct's field", api.Program{Structs: []api.Struct{{Name: "u"}, {Name: "t", Fields: l}, {Name: "u"}}}, false)
			judged(t, "a global", api.Program{Globals: l}, d.Name != "")
			judged(t, "a parameter", api.Program{Procs: []api.Proc{{Name: "p", Params: l}}}, d.Name != "")
			judged(t, "a local", api.Program{Procs: []api.Proc{{Name: "q"}, {Name: "p", Locals: l}}}, d.Name != "")
		}
	}
}

// nests are statements around l, each with one block around it.
func nests(l []api.Stmt) []api.Stmt {
	return []api.Stmt{{Kind: api.Block, Then: l}, {Kind: api.If, Then: l}, {Kind: api.If, Both: true, Else: l}, {Kind: api.While, Then: l}, {Kind: api.If, Both: true, Then: l}}
}

// TestDeep: P7.1: twenty blocks within each other and twenty-one, of one sort and mixed.
func TestDeep(t *testing.T) {
	s := lot(1)
	for i := range 60 {
		for _, inner := range [][]api.Stmt{nil, {{}}, {{}, set(way("y"))}} {
			var l []api.Stmt
			for deep := 1; deep <= 23; deep++ {
				sort := i
				if i >= 5 {
					sort = s.below(5)
				}
				if deep == 1 {
					l = inner
				}
				l = []api.Stmt{nests(l)[sort]}
				if i > 10 && deep > 1 {
					l = append([]api.Stmt{{}, nests(nil)[s.below(5)]}, append(l, nests(nil)[s.below(5)])...)
				}
				judgedList(t, strconv.Itoa(deep)+" blocks, sort "+strconv.Itoa(sort), l, deep <= 20)
				judged(t, "in a second procedure", api.Program{Procs: []api.Proc{{Name: "q", Body: nests(nil)}, {Name: "p", Body: l}}}, deep <= 20)
				if deep == 20 {
					readAgain(t, alone(l))
					judged(t, "in two procedures", api.Program{Procs: []api.Proc{{Name: "q", Body: l}, {Name: "p", Body: l}}}, true)
				}
			}
		}
	}
}

// TestEmptyBlocksCount: P7.1: a block without statements is one too.
func TestEmptyBlocksCount(t *testing.T) {
	l := []api.Stmt{{}}
	for range 20 {
		l = []api.Stmt{{Kind: api.While, Then: l}}
	}
	judgedList(t, "twenty", l, true)
	inmost := &l[0].Then
	for range 19 {
		inmost = &(*inmost)[0].Then
	}
	for i, s := range nests(nil) {
		(*inmost)[0] = s
		judgedList(t, "an empty one more "+strconv.Itoa(i), l, false)
	}
	(*inmost)[0] = api.Stmt{Kind: api.Set, Place: hops("x", "n"), Value: number(1)}
	judgedList(t, "twenty again", l, true)
}

// TestHops: P7.1: eight arrows and nine, wherever a path may stand.
func TestHops(t *testing.T) {
	for n := range 40 {
		p := hops("x", slices.Repeat([]string{"n"}, n)...)
		v := api.Value{Kind: api.Way, Path: p}
		for i, s := range []api.Stmt{{Kind: api.Set, Place: p}, {Kind: api.Free, Place: p}, set(v), {Kind: api.Call, Name: "p", Args: []api.Value{{}, v}},
			branch(api.Same, v, v), branch(api.Other, v, api.Value{}), branch(api.Less, number(1), v), {Kind: api.Block, Then: []api.Stmt{set(v)}}} {
			judgedList(t, strconv.Itoa(n)+" arrows at "+strconv.Itoa(i), []api.Stmt{s}, n <= 8)
		}
	}
}

// TestMany: P7.1: 400 statements in all and 401, side by side, within each other, and across procedures.
func TestMany(t *testing.T) {
	many := func(n int) []api.Stmt { return make([]api.Stmt, n) }
	for n := 397; n <= 404; n++ {
		want := n <= 400
		what := strconv.Itoa(n)
		judgedList(t, what, many(n), want)
		for i := range nests(nil) {
			judgedList(t, what+" within "+strconv.Itoa(i), []api.Stmt{nests(many(n - 1))[i]}, want)
			judgedList(t, what+" within and behind "+strconv.Itoa(i), append([]api.Stmt{nests(many(200))[i]}, many(n-201)...), want)
			judgedList(t, what+" ahead and within "+strconv.Itoa(i), append(many(n-201), nests(many(200))[i]), want)
		}
		judgedList(t, what+" in both", []api.Stmt{{Kind: api.If, Both: true, Then: many(100), Else: many(n - 101)}}, want)
		judgedList(t, what+" in two blocks", []api.Stmt{{Kind: api.Block, Then: many(100)}, {Kind: api.Block, Then: many(n - 102)}}, want)
		for _, cut := range []int{0, 1, 200, n} {
			p := api.Program{Procs: []api.Proc{{Name: "p", Body: many(cut)}, {Name: "r"}, {Name: "q", Body: many(n - cut)}}}
			judged(t, what+" across procedures", p, want)
			if want {
				readAgain(t, p)
			}
		}
	}
	judgedList(t, "a great many", many(1<<17), false)
}

// statementHas lists, by Kind, the fields that the chapter says a statement has.
func statementHas() [][]string {
	return [][]string{api.Skip: nil, api.Set: {"Place", "Value"}, api.Free: {"Place"}, api.Call: {"Name", "Args"},
		api.If: {"Cond", "Then", "Else", "Both"}, api.While: {"Cond", "Then"}, api.Block: {"Then"}}
}

// valueHas is likewise of values.
func valueHas() [][]string {
	return [][]string{api.Null: nil, api.Way: {"Path"}, api.Fresh: {"Type"}, api.Input: nil, api.Number: {"Left.N"}, api.Plus: {"Left", "Right"}, api.Minus: {"Left", "Right"}}
}

// condHas is likewise of conditions.
func condHas() [][]string {
	both := []string{"Left", "Right"}
	return [][]string{api.Choice: nil, api.Same: both, api.Other: both, api.Less: both, api.NotLess: both}
}

// plainStmts are right ones, by Kind.
func plainStmts() []api.Stmt {
	return []api.Stmt{{}, set(way("y")), {Kind: api.Free, Place: name("x")}, {Kind: api.Call, Name: "p"}, {Kind: api.If}, {Kind: api.While}, {Kind: api.Block}}
}

func plainValues() []api.Value {
	term := api.Term{Name: "x"}
	return []api.Value{{}, way("y"), {Kind: api.Fresh, Type: "t"}, {Kind: api.Input}, number(7), {Kind: api.Plus, Left: term}, {Kind: api.Minus, Right: term}}
}

func plainConds() []api.Cond {
	all := make([]api.Cond, 5)
	for i := range all {
		all[i].Kind = i
	}
	return all
}

// spoils sets each field of v alone that no name of has stands for, to what is not zero, and tells the way to it.
func spoils(v reflect.Value, has []string, see func(way string, place bool)) {
	visit(v, "", func(v reflect.Value, way string) {
		way = strings.TrimPrefix(way, ".")
		if way == "Kind" || slices.ContainsFunc(has, func(s string) bool { return way == s || strings.HasPrefix(way, s+".") || strings.HasPrefix(way, s+"[") }) {
			return
		}
		was := reflect.New(v.Type()).Elem()
		was.Set(v)
		for _, change := range changes(v) {
			v.Set(change)
			see(way, isPlace("."+way))
			v.Set(was)
		}
	})
}

// TestStmtHasNoMore: P7.1: of each Kind of a statement, each field that it does not have, alone.
func TestStmtHasNoMore(t *testing.T) {
	for kind, has := range statementHas() {
		l := []api.Stmt{plainStmts()[kind]}
		judgedList(t, "Kind "+strconv.Itoa(kind), l, true)
		n := 0
		spoils(reflect.ValueOf(&l[0]).Elem(), has, func(way string, place bool) {
			judgedList(t, "Kind "+strconv.Itoa(kind)+", "+way, l, place)
			judgedList(t, "Kind "+strconv.Itoa(kind)+", within, "+way, []api.Stmt{{Kind: api.While, Then: l}}, place)
			n++
		})
		if n < 100 {
			t.Errorf("Kind %d: only %d", kind, n)
		}
	}
}

// TestValueHasNoMore: P7.1: likewise of values, put somewhere, handed on, or held against another one.
func TestValueHasNoMore(t *testing.T) {
	for kind, has := range valueHas() {
		side := kind == api.Null || kind == api.Way || kind == api.Number
		v := plainValues()[kind]
		holders := func() [][]api.Stmt {
			return [][]api.Stmt{{set(v)}, {{Kind: api.Call, Name: "p", Args: []api.Value{{}, v}}}, {branch(api.Same, v, way("x"))}, {branch(api.Less, way("x"), v)}}
		}
		hold := func(what string, want bool) {
			for i, l := range holders() {
				judgedList(t, "Value of Kind "+strconv.Itoa(kind)+" at "+strconv.Itoa(i)+what, l, want && (side || i == 0))
			}
		}
		hold("", true)
		spoils(reflect.ValueOf(&v).Elem(), has, func(way string, place bool) { hold(", "+way, place) })
	}
}

// TestCondHasNoMore: P7.1: likewise of conditions.
func TestCondHasNoMore(t *testing.T) {
	for kind, has := range condHas() {
		for _, of := range []int{api.If, api.While} {
			l := []api.Stmt{{Kind: of, Cond: plainConds()[kind]}}
			judgedList(t, "Cond of Kind "+strconv.Itoa(kind), l, true)
			spoils(reflect.ValueOf(&l[0].Cond).Elem(), has, func(way string, place bool) {
				judgedList(t, "Cond of Kind "+strconv.Itoa(kind)+", "+way, l, place)
			})
		}
		c := plainConds()[kind]
		c.Left.Kind = api.Number
		judgedList(t, "Cond with a Left, of Kind "+strconv.Itoa(kind), []api.Stmt{{Kind: api.If, Cond: c}}, kind != api.Choice)
	}
}

// TestElseWithoutBoth: P7.1.
func TestElseWithoutBoth(t *testing.T) {
	for _, l := range [][]api.Stmt{nil, {}, {{}}, {{Kind: api.Block}}, {{Kind: 99}}} {
		judgedList(t, "an Else without Both", []api.Stmt{{Kind: api.If, Else: l}}, len(l) == 0)
		judgedList(t, "an Else with Both", []api.Stmt{{Kind: api.If, Else: l, Both: true}}, len(l) == 0 || l[0].Kind != 99)
	}
}

// TestKinds: P7.1: Kinds below and above those that are told.
func TestKinds(t *testing.T) {
	for _, kind := range []int{-1, -2, 5, 6, 7, 8, 9, 256, 1 << 32, 1<<32 + 1, math.MaxInt, math.MinInt, math.MinInt + 1} {
		if kind < 0 || kind > 6 {
			for i, s := range plainStmts() {
				s.Kind = kind
				judgedList(t, "a statement of Kind "+strconv.Itoa(kind)+", else as "+strconv.Itoa(i), []api.Stmt{{}, s}, false)
			}
			for i, v := range plainValues() {
				v.Kind = kind
				judgedList(t, "a Value of Kind "+strconv.Itoa(kind)+", else as "+strconv.Itoa(i), []api.Stmt{set(v)}, false)
				judgedList(t, "an argument of it", []api.Stmt{{Kind: api.Call, Name: "p", Args: []api.Value{v}}}, false)
				judgedList(t, "a side of it", []api.Stmt{branch(api.Same, v, v)}, false)
			}
		}
		for _, side := range []api.Value{{}, way("x"), number(1)} {
			judgedList(t, "a Cond of Kind "+strconv.Itoa(kind), []api.Stmt{branch(kind, side, side)}, false)
			judgedList(t, "a loop's", []api.Stmt{{Kind: api.While, Cond: api.Cond{Kind: kind, Left: side}}}, false)
		}
	}
}

// within is a program that is right but for this list, at a place of its own.
func within(l []api.Stmt) api.Program {
	return api.Program{Structs: []api.Struct{{Name: "t"}}, Procs: []api.Proc{{Name: "q", Body: []api.Stmt{{}}}, {Name: "p", Body: []api.Stmt{{}, {Kind: api.While, Then: l}}}, {Name: "r"}}}
}

// TestNoEnd: R1: lists that hold themselves have no end, and are not right.
func TestNoEnd(t *testing.T) {
	for i := range 5 {
		for _, long := range []int{1, 3, 30, 1000} {
			l := make([]api.Stmt, long)
			for k := range l {
				l[k] = nests(l)[i]
			}
			judgedList(t, "a list that holds itself", l, false)
			judged(t, "it, deep within", within(l), false)
			l[0] = api.Stmt{}
			judgedList(t, "a list that holds itself behind a Skip", l[:1], true)
		}
	}
	l := []api.Stmt{{}, {}}
	l[1] = api.Stmt{Kind: api.Set, Place: name("x"), Then: l}
	judgedList(t, "a Set that holds itself", l, false)
	l[1] = api.Stmt{Kind: api.If, Else: l}
	judgedList(t, "an Else without Both that holds itself", l, false)
}

// TestDeepest: R1: 2^16 lists within each other.
func TestDeepest(t *testing.T) {
	l := []api.Stmt{{}}
	for i := range 1 << 16 {
		l = []api.Stmt{nests(l)[i%5]}
	}
	judgedList(t, "the deepest", l, false)
}

// TestLong: P7.1: layer 6 makes no tree whose text would be longer than it takes, be it as short as it can.
func TestLong(t *testing.T) {
	globals := func(bytes int) api.Program {
		var p api.Program
		for range bytes/6 - 1 {
			p.Globals = append(p.Globals, api.Decl{Name: "x"})
		}
		return api.Program{Globals: append(p.Globals, api.Decl{Name: strings.Repeat("x", 1+bytes%6)})}
	}
	for bytes := 65530; bytes < 65545; bytes++ {
		p := globals(bytes)
		if got := len(compact(signsOf(p))); got != bytes {
			t.Fatalf("%d bytes are %d", bytes, got)
		}
		held(t, strconv.Itoa(bytes)+" bytes of globals", p)
		judged(t, strconv.Itoa(bytes)+" bytes of globals", p, bytes <= 65536)
	}
	for bytes := 65530; bytes < 65545; bytes++ {
		n := (bytes - len("void p(){#(null);}")) / len(",null")
		l := []api.Stmt{{Kind: api.Call, Name: "p", Args: make([]api.Value, n+1)}}
		l[0].Name += strings.Repeat("p", bytes-len(compact(signsOf(alone(l)))))
		if got := len(compact(signsOf(alone(l)))); got != bytes {
			t.Fatalf("%d bytes are %d", bytes, got)
		}
		judgedList(t, strconv.Itoa(bytes)+" bytes of statements", l, bytes <= 65536)
	}
	judgedList(t, "a million arguments", []api.Stmt{{Kind: api.Call, Name: "p", Args: make([]api.Value, 1<<20)}}, false)
}

// TestWordsApart: P7.1: the one blank that two words need counts, and no other one does.
func TestWordsApart(t *testing.T) {
	for i := range 5 {
		m := &maker{lot: lot(i), left: 300, deep: 6}
		p := m.program()
		for size := len(compact(signsOf(p))); size <= api.MaxSource; {
			more := m.program()
			for k := range more.Procs {
				more.Procs[k].Body = nil
			}
			size += len(compact(signsOf(more)))
			p.Structs, p.Globals, p.Procs = append(p.Structs, more.Structs...), append(p.Globals, more.Globals...), append(p.Procs, more.Procs...)
		}
		for len(compact(signsOf(p))) > api.MaxSource-10 {
			p.Structs, p.Globals = p.Structs[:max(0, len(p.Structs)-1)], p.Globals[:max(0, len(p.Globals)-1)]
		}
		found := map[bool]int{}
		for range 20 {
			found[held(t, "long by lot "+strconv.Itoa(i), p)]++
			last := &p.Procs[len(p.Procs)-1]
			last.Locals = append(last.Locals, one(&m.lot, api.Decl{Name: "x"}, api.Decl{Type: "t", Name: "x"}))
		}
		if found[true] == 0 || found[false] == 0 {
			t.Errorf("long by lot %d: %v", i, found)
		}
	}
}

// TestNotKept: R3, R4: a text stays as it was told, whatever becomes of the tree, and is told again.
func TestNotKept(t *testing.T) {
	p := rich(t)
	text, _ := print.Program(p)
	lines, _ := print.Stmts(p.Procs[2].Body)
	again, _ := print.Stmts(p.Procs[2].Body)
	visitAll(&p, func(v reflect.Value, _ string) {
		if v.Kind() == reflect.String {
			v.SetString("spoilt")
		}
	})
	if text != richText || lines != again {
		t.Error("who changes the tree changes the text")
	}
	print.Right(api.Program{Globals: []api.Decl{{}}})
	if got, err := print.Program(rich(t)); got != richText || err != api.OK {
		t.Errorf("told again: %v\n%s", err, got)
	}
	if got, _, err := parse.Program(text); err != api.OK || !print.Right(got) {
		t.Errorf("read again: %v", err)
	}
}
