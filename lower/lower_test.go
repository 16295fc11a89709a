package lower_test

import (
	"fmt"
	"reflect"
	"strconv"
	"strings"
	"testing"

	"umbral/api"
	"umbral/graph"
	"umbral/lower"
	"umbral/parse"
)

// marked tells a text without its marks, and where the signs behind them stand: a mark is a @ and a letter.
func marked(text string) (string, map[string]int) {
	plain, rest, _ := strings.Cut(text, "@")
	marks := map[string]int{}
	for rest != "" {
		name := rest[:1]
		var part string
		part, rest, _ = strings.Cut(rest[1:], "@")
		part = strings.TrimLeft(part, " ")
		marks[name] = len(plain)
		plain += part
	}
	return plain, marks
}

// placed tells a text with places instead of marks.
func placed(text string, marks map[string]int) string {
	for name, at := range marks {
		text = strings.ReplaceAll(text, "@"+name, "@"+strconv.Itoa(at))
	}
	return text
}

func read(t *testing.T, text string) (api.Program, map[string]int) {
	t.Helper()
	plain, marks := marked(text)
	p, at, err := parse.Program(plain)
	if err != api.OK {
		t.Fatalf("%s: %v at %d", plain, err, at)
	}
	return p, marks
}

// trimmed tells the lines of a text without blanks around them, and without empty ones.
func trimmed(text string) string {
	all := ""
	for line := range strings.Lines(text) {
		if line = strings.TrimSpace(line); line != "" {
			all += line + "\n"
		}
	}
	return all
}

// facts tells of a graph all but its edges.
func facts(g api.Graph) []string {
	return []string{
		fmt.Sprint("points ", g.Points),
		fmt.Sprint("start ", g.Start),
		fmt.Sprint("end ", g.End),
		fmt.Sprint("endat @", g.EndAt),
		fmt.Sprint("vars ", g.Vars),
		fmt.Sprint("ints ", g.Ints),
		fmt.Sprint("heads ", g.Heads),
		fmt.Sprint("structs ", g.Structs),
		fmt.Sprint("fields ", g.Fields),
	}
}

// sample is a text, some facts of its graph, parted by commas, and its edges.
type sample struct {
	text  string
	facts string
	edges string
}

// hold holds a sample's graph, and what follows.
func (s sample) hold(t *testing.T) {
	t.Helper()
	p, marks := read(t, s.text)
	g, at, err := lower.Graph(p)
	if at != 0 || err != api.OK {
		t.Errorf("%s: %v at %d", s.text, err, at)
		return
	}
	got := facts(g)
	wanted := strings.Split(placed(s.facts, marks), ", ")
	for _, want := range append(wanted, placed("endat @z", marks), "start 0") {
		if !strings.Contains("\n"+strings.Join(got, "\n")+"\n", "\n"+want+"\n") {
			t.Errorf("%s: %q, want %s", s.text, got, want)
		}
	}
	if got, want := graph.Text(g), placed(trimmed(s.edges), marks); got != want {
		t.Errorf("%s:\n%swant\n%s", s.text, got, want)
	}
	holdRight(t, s.text, p, g)
}

// within holds samples of texts that are main's Body: behind ahead, and with @z at its end.
func within(t *testing.T, ahead string, samples []sample) {
	t.Helper()
	for _, s := range samples {
		s.text = ahead + "void main() { " + s.text + " @z}"
		s.hold(t)
	}
}

// holdRight holds P13.2.
func holdRight(t *testing.T, what string, p api.Program, g api.Graph) {
	t.Helper()
	if !graph.Right(g) {
		t.Errorf("%s: the graph is not Right: %q\n%s", what, facts(g), graph.Text(g))
	}
	if got, want := len(g.Heads), loops(p, "main"); got != want {
		t.Errorf("%s: %d heads, but %d loops are put in", what, got, want)
	}
	if graph.Loops(g) != (len(g.Heads) > 0) {
		t.Errorf("%s: Loops is %v, with %d heads", what, graph.Loops(g), len(g.Heads))
	}
}

// loops tells how many loops are put in by a procedure, those of what it calls too.
func loops(p api.Program, name string) int {
	for _, q := range p.Procs {
		if q.Name == name {
			return loopsOf(p, q.Body)
		}
	}
	return 0
}

func loopsOf(p api.Program, l []api.Stmt) int {
	sum := 0
	for _, s := range l {
		if s.Kind == api.While {
			sum++
		}
		if s.Kind == api.Call {
			sum += loops(p, s.Name)
		}
		sum += loopsOf(p, s.Then) + loopsOf(p, s.Else)
	}
	return sum
}

// holdWrong holds an error, and that there is no graph beside it.
func holdWrong(t *testing.T, what string, p api.Program, at int, err api.Errno) {
	t.Helper()
	g, gotAt, got := lower.Graph(p)
	if gotAt != at || got != err {
		t.Errorf("%s: %v at %d, want %v at %d", what, got, gotAt, err, at)
	}
	if !reflect.DeepEqual(g, api.Graph{}) {
		t.Errorf("%s: a graph beside an error: %q", what, facts(g))
	}
}

func TestExamples(t *testing.T) {
	within(t, "", []sample{{"", "points 1, end 0, vars 0, ints 0, heads [], structs 0, fields []", ""}})
	within(t, "struct t { t* n; } t* x; ", []sample{{"@a x = x@b->n@c->n;", "points 4, end 3, vars 2, ints 0, heads [], structs 1, fields [{0 0}]", `
		0 -> 1 load p1 p0 f0 @b
		1 -> 2 load p0 p1 f0 @c
		2 -> 3 null p1 @a`}})
}

// base has p0 and p1 of s0, p2 of s1, i0 and i1; f0 leads from s0 to s0, f1 from s0 to s1, f2 from s1 to s0.
const base = "struct t { t* n; u* m; } struct u { t* o; } t* x; int i; t* y; int j; u* z; "

// P13.1: statements that are no Calls and no branches, one by one.
func TestPlainStatements(t *testing.T) {
	within(t, base, []sample{
		{"", "points 1, end 0, vars 3, ints 2, heads [], structs 2, fields [{0 0} {0 1} {1 0}]", ""},
		{"@a;", "points 2, end 1, vars 3, ints 2, heads [], structs 2, fields [{0 0} {0 1} {1 0}]", "0 -> 1 skip @a"},
		{"@a; @b; @c;", "points 4, end 3", "0 -> 1 skip @a\n 1 -> 2 skip @b\n 2 -> 3 skip @c"},
		{"@a{ }", "points 1, end 0", ""},
		{"@a{ @b{ @c; } @d; @e{ } } @f;", "points 4, end 3", "0 -> 1 skip @c\n 1 -> 2 skip @d\n 2 -> 3 skip @f"},
		{"@a free(@b x);", "points 2, end 1, vars 3", "0 -> 1 free p0 @a"},
		{"@a free(@b z);", "points 2, end 1, vars 3", "0 -> 1 free p2 @a"},
		{"@a free(@b x@c->n);", "points 4, end 3, vars 4", "0 -> 1 load p3 p0 f0 @c\n 1 -> 2 free p3 @a\n 2 -> 3 null p3 @a"},
		{"@a free(@b y@c->m@d->o);", "points 5, end 4, vars 4", "0 -> 1 load p3 p1 f1 @c\n 1 -> 2 load p3 p3 f2 @d\n 2 -> 3 free p3 @a\n 3 -> 4 null p3 @a"},
	})
}

// P13.1: Set without hops.
func TestPointersAreSet(t *testing.T) {
	within(t, base, []sample{
		{"@a x = @b null;", "points 2, end 1, vars 3", "0 -> 1 null p0 @a"},
		{"@a z = @b null;", "points 2, end 1, vars 3", "0 -> 1 null p2 @a"},
		{"@a x = @b y;", "points 2, end 1, vars 3", "0 -> 1 copy p0 p1 @a"},
		{"@a y = @b x;", "points 2, end 1, vars 3", "0 -> 1 copy p1 p0 @a"},
		{"@a z = @b z;", "points 2, end 1, vars 3", "0 -> 1 copy p2 p2 @a"},
		{"@a x = @b y@c->n;", "points 2, end 1, vars 3", "0 -> 1 load p0 p1 f0 @c"},
		{"@a x = @b x@c->n;", "points 2, end 1, vars 3", "0 -> 1 load p0 p0 f0 @c"},
		{"@a z = @b x@c->m;", "points 2, end 1, vars 3", "0 -> 1 load p2 p0 f1 @c"},
		{"@a y = @b z@c->o;", "points 2, end 1, vars 3", "0 -> 1 load p1 p2 f2 @c"},
		{"@a x = @b y@c->n@d->n;", "points 4, end 3, vars 4", "0 -> 1 load p3 p1 f0 @c\n 1 -> 2 load p0 p3 f0 @d\n 2 -> 3 null p3 @a"},
		{"@a x = z@c->o@d->m@e->o@f->n;", "points 6, end 5, vars 4", `
			0 -> 1 load p3 p2 f2 @c
			1 -> 2 load p3 p3 f1 @d
			2 -> 3 load p3 p3 f2 @e
			3 -> 4 load p0 p3 f0 @f
			4 -> 5 null p3 @a`},
		{"@a z = x@b->n@c->n@d->n@e->n@f->n@g->n@h->n@i->m;", "points 10, end 9, vars 4", `
			0 -> 1 load p3 p0 f0 @b
			1 -> 2 load p3 p3 f0 @c
			2 -> 3 load p3 p3 f0 @d
			3 -> 4 load p3 p3 f0 @e
			4 -> 5 load p3 p3 f0 @f
			5 -> 6 load p3 p3 f0 @g
			6 -> 7 load p3 p3 f0 @h
			7 -> 8 load p2 p3 f1 @i
			8 -> 9 null p3 @a`},
		{"@a x = @b new t;", "points 2, end 1, vars 3", "0 -> 1 new p0 s0 @b"},
		{"@a z = @b new u;", "points 2, end 1, vars 3", "0 -> 1 new p2 s1 @b"},
	})
}

// P13.1: Set of a number.
func TestNumbersAreSet(t *testing.T) {
	within(t, base, []sample{
		{"@a i = @b input;", "points 2, ints 2, vars 3", "0 -> 1 take i0 @b"},
		{"@a j = @b input;", "points 2, ints 2, vars 3", "0 -> 1 take i1 @b"},
		{"@a i = @b 7;", "points 2, ints 2, vars 3", "0 -> 1 put i0 7 @a"},
		{"@a j = @b 0;", "points 2, ints 2, vars 3", "0 -> 1 put i1 0 @a"},
		{"@a j = @b 999999999;", "points 2, ints 2", "0 -> 1 put i1 999999999 @a"},
		{"@a i = @b j;", "points 2, ints 2", "0 -> 1 put i0 i1 @a"},
		{"@a j = @b j;", "points 2, ints 2", "0 -> 1 put i1 i1 @a"},
		{"@a i = @b j + @c 3;", "points 2, ints 2", "0 -> 1 put i0 i1 + 3 @a"},
		{"@a i = @b 4 + @c i;", "points 2, ints 2", "0 -> 1 put i0 4 + i0 @a"},
		{"@a i = @b 0 + @c 0;", "points 2, ints 2", "0 -> 1 put i0 0 + 0 @a"},
		{"@a j = @b i - @c j;", "points 2, ints 2", "0 -> 1 put i1 i0 - i1 @a"},
		{"@a j = @b j - @c i;", "points 2, ints 2", "0 -> 1 put i1 i1 - i0 @a"},
		{"@a j = @b 5 - @c 999999999;", "points 2, ints 2", "0 -> 1 put i1 5 - 999999999 @a"},
		{"@a j = @b i - @c 1;", "points 2, ints 2", "0 -> 1 put i1 i0 - 1 @a"},
	})
}

// P13.1: Set with hops.
func TestFieldsAreSet(t *testing.T) {
	within(t, base, []sample{
		{"@a x@b->n = @c null;", "points 2, end 1, vars 3", "0 -> 1 cut p0 f0 @b"},
		{"@a z@b->o = @c null;", "points 2, end 1, vars 3", "0 -> 1 cut p2 f2 @b"},
		{"@a x@b->n@c->m = @d null;", "points 4, end 3, vars 4", "0 -> 1 load p3 p0 f0 @b\n 1 -> 2 cut p3 f1 @c\n 2 -> 3 null p3 @a"},
		{"@a x@b->n@c->n@d->m@e->o = @f null;", "points 6, end 5, vars 4", `
			0 -> 1 load p3 p0 f0 @b
			1 -> 2 load p3 p3 f0 @c
			2 -> 3 load p3 p3 f1 @d
			3 -> 4 cut p3 f2 @e
			4 -> 5 null p3 @a`},
		{"@a x@b->n = @c y;", "points 3, end 2, vars 3", "0 -> 1 cut p0 f0 @b\n 1 -> 2 link p0 f0 p1 @b"},
		{"@a x@b->n = @c x;", "points 3, end 2, vars 3", "0 -> 1 cut p0 f0 @b\n 1 -> 2 link p0 f0 p0 @b"},
		{"@a y@b->m = @c z;", "points 3, end 2, vars 3", "0 -> 1 cut p1 f1 @b\n 1 -> 2 link p1 f1 p2 @b"},
		{"@a x@b->n = @c x@d->n;", "points 5, end 4, vars 4", `
			0 -> 1 load p3 p0 f0 @d
			1 -> 2 cut p0 f0 @b
			2 -> 3 link p0 f0 p3 @b
			3 -> 4 null p3 @a`},
		{"@a x@b->n@c->n = @d y;", "points 5, end 4, vars 4", `
			0 -> 1 load p3 p0 f0 @b
			1 -> 2 cut p3 f0 @c
			2 -> 3 link p3 f0 p1 @c
			3 -> 4 null p3 @a`},
		{"@a x@b->n@c->m@d->o = y@e->m@f->o@g->n;", "points 10, end 9, vars 5", `
			0 -> 1 load p3 p0 f0 @b
			1 -> 2 load p3 p3 f1 @c
			2 -> 3 load p4 p1 f1 @e
			3 -> 4 load p4 p4 f2 @f
			4 -> 5 load p4 p4 f0 @g
			5 -> 6 cut p3 f2 @d
			6 -> 7 link p3 f2 p4 @d
			7 -> 8 null p3 @a
			8 -> 9 null p4 @a`},
		{"@a x@b->m = @c new u;", "points 5, end 4, vars 4", `
			0 -> 1 new p3 s1 @c
			1 -> 2 cut p0 f1 @b
			2 -> 3 link p0 f1 p3 @b
			3 -> 4 null p3 @a`},
		{"@a z@b->o@c->n = @d new t;", "points 7, end 6, vars 5", `
			0 -> 1 load p3 p2 f2 @b
			1 -> 2 new p4 s0 @d
			2 -> 3 cut p3 f0 @c
			3 -> 4 link p3 f0 p4 @c
			4 -> 5 null p3 @a
			5 -> 6 null p4 @a`},
	})
}

// P13.1: each statement's temps begin at the top, behind main's locals, and end with it.
func TestTemps(t *testing.T) {
	within(t, base, []sample{{"@a x@b->n@c->n = y@d->n; @e free(x@f->n); @g{ @h x = y@i->n@j->n; @k; }", "points 14, end 13, vars 5", `
		0 -> 1 load p3 p0 f0 @b
		1 -> 2 load p4 p1 f0 @d
		2 -> 3 cut p3 f0 @c
		3 -> 4 link p3 f0 p4 @c
		4 -> 5 null p3 @a
		5 -> 6 null p4 @a
		6 -> 7 load p3 p0 f0 @f
		7 -> 8 free p3 @e
		8 -> 9 null p3 @e
		9 -> 10 load p3 p1 f0 @i
		10 -> 11 load p0 p3 f0 @j
		11 -> 12 null p3 @h
		12 -> 13 skip @k`}})
	locals := "t* a; int k; u* b; int l; "
	within(t, base, []sample{
		{locals, "points 1, vars 5, ints 4", ""},
		{locals + "@a a = b@c->o@d->n; @e l = k;", "points 5, vars 6, ints 4", `
			0 -> 1 load p5 p4 f2 @c
			1 -> 2 load p3 p5 f0 @d
			2 -> 3 null p5 @a
			3 -> 4 put i3 i2 @e`},
		{locals + "@a k = i - l; l = @c input; @d free(b); @e b@f->o = a;", "points 6, vars 5, ints 4", `
			0 -> 1 put i2 i0 - i3 @a
			1 -> 2 take i3 @c
			2 -> 3 free p4 @d
			3 -> 4 cut p4 f2 @f
			4 -> 5 link p4 f2 p3 @f`},
	})
}

// Structs and fields are numbered over all, variables by their kinds, wherever they stand in the text.
func TestNumbering(t *testing.T) {
	sample{"int i; u* z; void main() { int i; u* a; t* x; @a z = a; x = a@c->o; @d i = j; @e j = k; x = @g new t; a = x@i->p; a = x@k->q; @z} t* y; int j; struct u { t* o; } struct w { } int k; struct t { u* p; w* r; u* q; }",
		"points 8, end 7, vars 4, ints 4, heads [], structs 3, fields [{0 2} {2 0} {2 1} {2 0}]", `
		0 -> 1 copy p0 p2 @a
		1 -> 2 load p3 p2 f0 @c
		2 -> 3 put i3 i1 @d
		3 -> 4 put i1 i2 @e
		4 -> 5 new p3 s2 @g
		5 -> 6 load p2 p3 f1 @i
		6 -> 7 load p2 p3 f3 @k`}.hold(t)
	sample{"struct a { b* n; } struct b { a* n; } a* x; b* y; void main() { @a x@b->n@c->n@d->n = y@e->n@f->n; @z}",
		"points 9, end 8, vars 4, structs 2, fields [{0 1} {1 0}]", `
		0 -> 1 load p2 p0 f0 @b
		1 -> 2 load p2 p2 f1 @c
		2 -> 3 load p3 p1 f1 @e
		3 -> 4 load p3 p3 f0 @f
		4 -> 5 cut p2 f0 @d
		5 -> 6 link p2 f0 p3 @d
		6 -> 7 null p2 @a
		7 -> 8 null p3 @a`}.hold(t)
	sample{"struct a { } struct b { } b* x; void main() { x = @a new b; @z} void none() { b* y; int k; while (?) { ; } }",
		"points 2, vars 1, ints 0, heads [], structs 2, fields []", "0 -> 1 new p0 s1 @a"}.hold(t)
}

// main's locals are ahead of globals of the same name, whose types may be others.
func TestHiddenNames(t *testing.T) {
	within(t, base, []sample{{"int x; t* i; u* y; @a x = 1; i = @c new t; i = y@e->o; @f y = z; @g j = x; @h y = i@i->n@j->m;", "vars 6, ints 3", `
		0 -> 1 put i2 1 @a
		1 -> 2 new p3 s0 @c
		2 -> 3 load p3 p4 f2 @e
		3 -> 4 copy p4 p2 @f
		4 -> 5 put i1 i2 @g
		5 -> 6 load p5 p3 f0 @i
		6 -> 7 load p4 p5 f1 @j
		7 -> 8 null p5 @h`}})
}
