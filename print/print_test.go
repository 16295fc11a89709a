package print_test

import (
	"strings"
	"testing"

	"umbral/api"
	"umbral/parse"
	"umbral/print"
)

// richText has all forms of the grammar, as they are printed.
const richText = `struct t {
  t* n;
  u* m;
}
struct u {
}
t* x;
int i;
u* y;
void none() {
}
void p(t* a) {
  ;
}
void q(int k, t* a, u* b) {
  int j;
  t* c;
  x = null;
  x = new t;
  i = input;
  x = a;
  x->n = a->n->n;
  i = 7;
  i = k + 1;
  i = 2 - j;
  i = 999999999 + 0;
  i = j - k;
}
void main() {
  int z;
  free(x);
  free(x->n->m);
  none();
  p(null);
  q(1, x->n, y);
  ;
  {
  }
  {
    ;
    {
      x = y;
    }
  }
  if (?) {
  }
  if (x == null) {
    free(x);
  }
  if (x != y->n) {
    p(x);
    ;
  } else {
    x = y;
  }
  if (i < 7) {
  } else {
  }
  if (7 >= i) {
    if (1 < 2) {
    } else {
      while (?) {
        {
        }
      }
    }
  } else {
    while (i >= j) {
      i = i + 1;
    }
  }
  while (null == null) {
  }
}
`

func name(s string) api.Path { return api.Path{Name: s} }

func hops(s string, of ...string) api.Path {
	p := name(s)
	for _, h := range of {
		p.Hops = append(p.Hops, api.Hop{Name: h})
	}
	return p
}

func way(s string, of ...string) api.Value { return api.Value{Kind: api.Way, Path: hops(s, of...)} }

func number(n int) api.Value { return api.Value{Kind: api.Number, Left: api.Term{N: n}} }

func set(v api.Value) api.Stmt { return api.Stmt{Kind: api.Set, Place: name("x"), Value: v} }

func branch(kind int, left, right api.Value) api.Stmt {
	return api.Stmt{Kind: api.If, Cond: api.Cond{Kind: kind, Left: left, Right: right}}
}

// tells holds the lines of statements.
func tells(t *testing.T, l []api.Stmt, want string) {
	t.Helper()
	got, err := print.Stmts(l)
	if got != want || err != api.OK {
		t.Errorf("Stmts: %v\n%s\nwant\n%s", err, got, want)
	}
	inner := strings.ReplaceAll("\n"+strings.TrimSuffix(want, "\n"), "\n", "\n  ")
	if want == "" {
		inner = ""
	}
	got, err = print.Program(alone(l))
	if want := "void p() {" + inner + "\n}\n"; got != want || err != api.OK {
		t.Errorf("Program: %v\n%s\nwant\n%s", err, got, want)
	}
}

// TestExample: P7.3.
func TestExample(t *testing.T) {
	tells(t, []api.Stmt{set(api.Value{})}, "x = null;\n")
}

// TestNothing: P7.1 to P7.3: nil and empty lists.
func TestNothing(t *testing.T) {
	for _, p := range []api.Program{{}, {Structs: []api.Struct{}, Globals: []api.Decl{}, Procs: []api.Proc{}}} {
		if got, err := print.Program(p); got != "" || err != api.OK || !print.Right(p) {
			t.Errorf("nothing: %q, %v", got, err)
		}
	}
	tells(t, nil, "")
	tells(t, []api.Stmt{}, "")
	full := api.Program{
		Structs: []api.Struct{{Name: "t", Fields: []api.Decl{}}},
		Procs: []api.Proc{{Name: "p", Params: []api.Decl{}, Locals: []api.Decl{}, Body: []api.Stmt{
			{Kind: api.If, Then: []api.Stmt{}, Else: []api.Stmt{}, Args: []api.Value{}, Place: api.Path{Hops: []api.Hop{}}},
			{Kind: api.Call, Name: "p", Args: []api.Value{}}}}},
	}
	if got, err := print.Program(full); got != "struct t {\n}\nvoid p() {\n  if (?) {\n  }\n  p();\n}\n" || err != api.OK {
		t.Errorf("empty lists: %q, %v", got, err)
	}
}

// TestRich: P7.2, P7.4: all forms of the grammar, byte by byte.
func TestRich(t *testing.T) {
	p := rich(t)
	if got, err := print.Program(p); got != richText || err != api.OK {
		t.Errorf("%v\n%s", err, got)
	}
	readAgain(t, p)
	if got := layout(signsOf(p)); got != richText {
		t.Errorf("the model lays it out as\n%s", got)
	}
}

// TestProgram: P7.2, by hand: structs, then globals, then procedures, each in its order.
func TestProgram(t *testing.T) {
	p, _, err := parse.Program("void b(t*x,int i){int j;t*y;x=y;} int g;struct u{}t*h;void a(){}struct t{t*n;u*m;}int f;")
	want := "struct u {\n}\nstruct t {\n  t* n;\n  u* m;\n}\nint g;\nt* h;\nint f;\nvoid b(t* x, int i) {\n  int j;\n  t* y;\n  x = y;\n}\nvoid a() {\n}\n"
	if got, _ := print.Program(p); got != want || err != api.OK {
		t.Errorf("%v\n%s\nwant\n%s", err, got, want)
	}
}

// TestStmts: P7.3: each form of a statement.
func TestStmts(t *testing.T) {
	skip := []api.Stmt{{}}
	all := map[string]api.Stmt{
		";\n":                      {},
		"x->n->m = y;\n":           {Kind: api.Set, Place: hops("x", "n", "m"), Value: way("y")},
		"free(x);\n":               {Kind: api.Free, Place: name("x")},
		"free(x->n);\n":            {Kind: api.Free, Place: hops("x", "n")},
		"p();\n":                   {Kind: api.Call, Name: "p"},
		"p(null);\n":               {Kind: api.Call, Name: "p", Args: []api.Value{{}}},
		"p(x, 0, y->n, null);\n":   {Kind: api.Call, Name: "p", Args: []api.Value{way("x"), number(0), way("y", "n"), {}}},
		"{\n}\n":                   {Kind: api.Block},
		"{\n  ;\n}\n":              {Kind: api.Block, Then: skip},
		"{\n  {\n    ;\n  }\n}\n":  {Kind: api.Block, Then: []api.Stmt{{Kind: api.Block, Then: skip}}},
		"if (?) {\n}\n":            {Kind: api.If},
		"if (?) {\n  ;\n}\n":       {Kind: api.If, Then: skip},
		"if (?) {\n} else {\n}\n":  {Kind: api.If, Both: true},
		"while (?) {\n}\n":         {Kind: api.While},
		"while (?) {\n  ;\n}\n":    {Kind: api.While, Then: skip},
		"while (1 < x->n) {\n}\n":  {Kind: api.While, Cond: api.Cond{Kind: api.Less, Left: number(1), Right: way("x", "n")}},
		"if (null != null) {\n}\n": branch(api.Other, api.Value{}, api.Value{}),
		"if (?) {\n  ;\n} else {\n}\n": {
			Kind: api.If, Both: true, Then: skip},
		"if (?) {\n} else {\n  ;\n  ;\n}\n": {
			Kind: api.If, Both: true, Else: []api.Stmt{{}, {}}},
		"if (?) {\n  ;\n} else {\n  if (?) {\n  } else {\n    ;\n  }\n}\n": {
			Kind: api.If, Both: true, Then: skip, Else: []api.Stmt{{Kind: api.If, Both: true, Else: skip}}},
	}
	var row []api.Stmt
	var rows string
	for want, s := range all {
		tells(t, []api.Stmt{s}, want)
		row = append(row, s)
		rows += want
	}
	tells(t, row, rows)
}

// TestValues: P7.2, P7.3: each kind of values.
func TestValues(t *testing.T) {
	x, y, four := api.Term{Name: "x"}, api.Term{Name: "y"}, api.Term{N: 4}
	all := map[string]api.Value{
		"null":      {Kind: api.Null},
		"y":         way("y"),
		"y->n":      way("y", "n"),
		"y->n->m":   way("y", "n", "m"),
		"new t":     {Kind: api.Fresh, Type: "t"},
		"input":     {Kind: api.Input},
		"0":         number(0),
		"999999999": number(999999999),
		"x + y":     {Kind: api.Plus, Left: x, Right: y},
		"y - x":     {Kind: api.Minus, Left: y, Right: x},
		"4 + x":     {Kind: api.Plus, Left: four, Right: x},
		"x - 4":     {Kind: api.Minus, Left: x, Right: four},
		"0 + 0":     {Kind: api.Plus},
		"0 - 0":     {Kind: api.Minus},
	}
	for want, v := range all {
		tells(t, []api.Stmt{set(v)}, "x = "+want+";\n")
	}
}

// TestConds: P7.2, P7.3: each kind of conditions.
func TestConds(t *testing.T) {
	all := map[string]api.Cond{
		"?":         {Kind: api.Choice},
		"x == y":    {Kind: api.Same, Left: way("x"), Right: way("y")},
		"x->n != 3": {Kind: api.Other, Left: way("x", "n"), Right: number(3)},
		"3 < null":  {Kind: api.Less, Left: number(3)},
		"null >= x": {Kind: api.NotLess, Right: way("x")},
	}
	for want, c := range all {
		tells(t, []api.Stmt{{Kind: api.If, Cond: c}}, "if ("+want+") {\n}\n")
		tells(t, []api.Stmt{{Kind: api.While, Cond: c}}, "while ("+want+") {\n}\n")
	}
}
