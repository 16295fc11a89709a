package lower_test

import (
	"strings"
	"testing"

	"umbral/api"
	"umbral/lower"
)

// filled tells procedures, and statements of main's that take just so many points.
func filled(points int) (string, string) {
	procs := "void hundred() { " + many(99, ";") + " } void thousand() { " + many(99, ";") + many(9, "hundred();") + " } "
	return procs, many(points/1000, "thousand();") + many(points%1000/100, "hundred();") + many(points%100, ";")
}

// holdPoints holds that a statement that takes so many points may be the last one of 2000, and that with one point more it is too many, at @x.
func holdPoints(t *testing.T, ahead, statement string, points int) {
	t.Helper()
	procs, body := filled(api.MaxPoints - 1 - points)
	p, _ := read(t, ahead+procs+"void main() { "+body+statement+" }")
	g, at, err := lower.Graph(p)
	if g.Points != api.MaxPoints || at != 0 || err != api.OK {
		t.Errorf("%s: %d points, %v at %d", statement, g.Points, err, at)
	}
	holdRight(t, statement, p, g)
	procs, body = filled(api.MaxPoints - points)
	for _, behind := range []string{"", " ; ; "} {
		p, marks := read(t, ahead+procs+"void main() { "+body+statement+behind+" }")
		holdWrong(t, statement+behind, p, marks["x"], api.ErrMany)
	}
}

// P13.1: 2000 points, and 2001, by each kind of statement.
func TestManyPoints(t *testing.T) {
	procs := "void none() { } void p(t* a, int k) { t* b; int l; ; } void q() { none(); { none(); } } void r() { while (?) { q(); } } "
	for statement, points := range map[string]int{
		"@x ;":                             1,
		"@x { { ; } ; }":                   2,
		"@x x = y->n;":                     1,
		"@x x = y->n->n;":                  3,
		"@x i = i + 1;":                    1,
		"@x x->n = null;":                  1,
		"@x x->n = y;":                     2,
		"@x x->n->n = y->n;":               6,
		"@x x->n->n = new t;":              6,
		"@x free(x->n);":                   3,
		"@x if (?) { }":                    3,
		"@x if (?) { ; } else { ; ; }":     6,
		"@x if (x->n == null) { }":         6,
		"@x if (?) { if (?) { ; } }":       7,
		"@x while (?) { }":                 3,
		"@x while (x->n == y->n) { ; }":    10,
		"@x while (?) { while (?) { } }":   6,
		"@x none();":                       1,
		"@x p(null, 1);":                   7,
		"@x p(x->n->n, i);":                9,
		"@x q();":                          3,
		"@x { q(); { none(); } }":          4,
		"@x r();":                          7,
		"@x if (?) { r(); } else { q(); }": 13,
	} {
		holdPoints(t, base+procs, statement, points)
	}
}

// It is at the statement of main's by which there are too many, however deep they stand, and whatever comes behind.
func TestManyPointsByCalls(t *testing.T) {
	// a takes 21 points, b 421, c 8421.
	ahead := "void a() { " + many(20, ";") + " } void b() { " + many(20, "a();") + " } void c() { " + many(20, "b();") + "} "
	for _, body := range []string{
		"@x c(); c(); ;",
		"; b(); b(); b(); b(); @x b(); b();",
		"b(); b(); b(); b(); ; if (?) { } @x { { b(); } }",
		"@x { ; c(); }",
		"@x while (?) { if (?) { ; } else { c(); ; } }",
		"b(); b(); @x if (?) { b(); b(); } else { b(); b(); }",
		"; while (?) { b(); b(); } if (?) { b(); } else { b(); } " + many(14, "a(); ") + "@x a(); " + many(80, "a(); "),
	} {
		p, marks := read(t, ahead+"void main() { "+body+" }")
		holdWrong(t, body, p, marks["x"], api.ErrMany)
	}
}

// chain tells procedures from a to o: each calls the next one, again and again, within such brackets; the last one does what last tells.
func chain(count int, open, shut, last string) string {
	text := ""
	for name := 'a'; name < 'o'; name++ {
		text += "void " + string(name) + "() { " + many(count, open+string(name+1)+"();"+shut) + " } "
	}
	return text + "void o() { " + last + " } "
}

// Far more calls than can be put in end as soon as there are too many points.
func TestManyByChains(t *testing.T) {
	for _, procs := range []string{
		chain(25, "", "", ";"),
		chain(25, "", "", ""),
		chain(8, "{{", "}}", ";"),
		chain(8, "if (?) {", "} else { }", ""),
		chain(12, "while (?) {", "}", ""),
	} {
		p, marks := read(t, procs+"void main() { ; @x a(); a(); }")
		holdWrong(t, procs, p, marks["x"], api.ErrMany)
	}
	p, _ := read(t, chain(1, "", "", ";")+"void main() { a(); a(); }")
	if g, at, err := lower.Graph(p); g.Points != 33 || at != 0 || err != api.OK {
		t.Errorf("a chain without doublings: %d points, %v at %d", g.Points, err, at)
	}
}

// kinds are both kinds of variables, as decls are written.
var kinds = []string{"t* ", "int "}

// holdVars holds how many variables of a kind there are at most, or, if they are too many, the place @x of ErrMany: 0 without it.
func holdVars(t *testing.T, kind, text string, want int) {
	t.Helper()
	p, marks := read(t, "struct t { t* n; } "+text)
	if want > api.MaxVars {
		holdWrong(t, text, p, marks["x"], api.ErrMany)
		return
	}
	g, at, err := lower.Graph(p)
	got := g.Vars
	if kind == "int " {
		got = g.Ints
	}
	if got != want || at != 0 || err != api.OK {
		t.Errorf("%s: %d of %s, %v at %d, want %d", text, got, kind, err, at, want)
	}
	holdRight(t, text, p, g)
}

// P13.1: globals and main's locals are counted ahead of all statements: ErrMany is at 0.
func TestManyVariables(t *testing.T) {
	for _, kind := range kinds {
		for globals := range api.MaxDecls + 1 {
			for locals := range api.MaxDecls + 1 {
				text := many(globals, kind+"g%; ") + "void main() { " + many(locals, kind+"l%; ")
				holdVars(t, kind, text+"}", globals+locals)
				holdVars(t, kind, text+"; { } ; } void none("+kind+"a) { "+kind+"b; }", globals+locals)
			}
		}
	}
	both := many(10, "t* g%; ") + many(6, "int i%; ") + "void main() { " + many(10, "int j%; ") + many(6, "t* l%; ") + "p(); } void p() { " + many(8, "t* a%; int b%; ") + " }"
	holdVars(t, "t* ", both, 24)
	holdVars(t, "int ", both, 24)
}

// P13.1: frames stand behind globals, main's locals, and the frames around.
func TestManyVariablesOfFrames(t *testing.T) {
	for _, kind := range kinds {
		globals := many(10, kind+"g%; ")
		for size := 9; size <= 11; size++ {
			params := strings.TrimSuffix(many(size, kind+"a%, "), ", ")
			args := strings.TrimSuffix(many(size, "g0, "), ", ")
			local := globals + "void p() { " + many(size, kind+"l%; ") + "} "
			param := globals + "void p(" + params + ") { } "
			half := globals + "void p(" + kind + "a, " + kind + "b) { " + many(size-2, kind+"l%; ") + "} "
			main := "void main() { " + kind + "a; " + many(3, kind+"m%; ")
			holdVars(t, kind, local+main+"; @x p(); ; }", 14+size)
			holdVars(t, kind, local+main+"; { } @x if (?) { } else { while (?) { p(); } } p(); }", 14+size)
			holdVars(t, kind, local+main+"@x q(); } void q() { { p(); } }", 14+size)
			holdVars(t, kind, local+main+"@x q(a); } void q("+kind+"x) { { p(); } ; }", 15+size)
			holdVars(t, kind, local+main+"q(); @x { p(); } } void q() { "+kind+"x; }", 14+size)
			holdVars(t, kind, param+main+"@x p("+args+"); }", 14+size)
			holdVars(t, kind, half+main+"@x p(a, m0); p(m1, a); }", 14+size)
			holdVars(t, kind, half+main+"@x { r(); } } void q("+kind+"x) { p(x, x); } void r() { q(g0); }", 15+size)
			holdVars(t, kind, half+main+"q(g1); @x r(); } void q("+kind+"x) { "+kind+"y; } void r() { q(g0); p(g1, g2); }", 14+size)
			holdVars(t, kind, half+main+"} void q() { p(g0, g0); }", 14)
		}
	}
}

// P13.1: temps are counted as long as they are there.
func TestManyTemps(t *testing.T) {
	for _, c := range []struct {
		body  string
		temps int
	}{
		{"@x g0 = g1;", 0},
		{"@x g0 = g1->n;", 0},
		{"@x g0 = g1->n->n;", 1},
		{"@x g0 = g1->n->n->n->n->n->n->n->n;", 1},
		{"@x g0->n = g1;", 0},
		{"@x g0->n->n = g1;", 1},
		{"@x g0->n = g1->n;", 1},
		{"@x g0->n->n->n = g1->n->n;", 2},
		{"@x g0->n = new t;", 1},
		{"@x g0->n->n = new t;", 2},
		{"@x free(g0->n->n);", 1},
		{"@x if (g0->n == null) { }", 1},
		{"@x if (g0 != g1->n) { }", 1},
		{"@x if (g0->n->n == g1->n) { }", 2},
		{"@x while (null != g1->n) { }", 1},
		{"@x while (g0->n == g0->n->n) { ; }", 2},
		{"@x if (?) { } else { { g0->n->n = new t; } }", 2},
		{"@x while (g0->n == null) { if (g0->n == g1->n) { ; } }", 2},
		{"@x one(g0);", 1},
		{"@x one(g0->n);", 1},
		{"@x one(g0->n->n);", 2},
		{"@x two(g0->n->n, g1->n->n);", 3},
		{"@x two(null, g0);", 2},
		{"@x last();", 2},
		{"@x if (g0->n == g1->n) { two(g0->n, g1->n->n); }", 3},
	} {
		procs := "void one(t* a) { } void two(t* a, t* b) { a = b->n; } void last() { if (?) { free(g0->n); g0->n->n = g1->n; } } "
		for locals := 4; locals <= 8; locals++ {
			text := many(16, "t* g%; ") + procs + "void main() { " + many(locals, "t* l%; ") + "; g0 = null; " + c.body + " ; g0 = g1; }"
			holdVars(t, "t* ", text, 16+locals+c.temps)
		}
	}
}
