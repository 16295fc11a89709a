package parse_test

import (
	"slices"
	"strings"
	"testing"

	"umbral/api"
)

// nests are statements that hold others: what stands ahead of their brace, and the brace.
func nests() []string {
	return []string{"{", "if (?) {", "if (x == y) { ; } else {", "while (x < 1) {"}
}

// inProc is a program with such statements, none of them ended.
func inProc(stmts string) string { return "struct t { t * n; } void p(t * x) { int i; " + stmts }

// within writes heads of statements, each within the one ahead, and their ends behind what is within all of them.
func within(heads []string, inner string) string {
	return strings.Join(heads, " ") + inner + strings.Repeat("}", len(heads))
}

// TestDeep: P6.1, P6.2: twenty blocks within each other and twenty-one.
func TestDeep(t *testing.T) {
	s := lot(1)
	for i := range 40 {
		heads := make([]string, 20)
		for j := range heads {
			heads[j] = nests()[i%4]
			if i >= 4 {
				heads[j] = nests()[s.below(4)]
			}
		}
		lists.passes(t, within(heads, ""))
		lists.passes(t, within(heads, ";")+within(heads, "")+"{{}}")
		programs.passes(t, inProc(within(heads, "")+within(heads, ";")+"} void q() { {} }"))
		for _, deep := range nests() {
			head := strings.TrimSuffix(deep, "{") + "@{"
			if strings.Contains(deep, "else") { // the brace of its then is too deep already
				head = strings.Replace(deep, "{", "@{", 1)
			}
			for _, tail := range []string{"", "}", " ) ; ->", strings.Repeat("{", 50)} {
				lists.failsAt(t, strings.Join(heads, "")+head+tail, api.ErrDeep)
				programs.failsAt(t, inProc("; "+strings.Join(heads, "")+head+tail), api.ErrDeep)
			}
		}
	}
}

// TestBeside: P6.1, P6.2: blocks that have ended are around nothing.
func TestBeside(t *testing.T) {
	full := within(slices.Repeat([]string{"{"}, 19), "if (?) { } else { } while (?) { } {} if (?) { }")
	lists.passes(t, full)
	lists.passes(t, strings.Repeat("{}", 100)+full)
	programs.passes(t, inProc(full+"} void q() { "+full+full+"}"))
	lists.failsAt(t, within(slices.Repeat([]string{"{"}, 19), "if (?) { } else { @{} }"), api.ErrDeep)
	lists.failsAt(t, within(slices.Repeat([]string{"{"}, 20), "if (?) @;"), api.ErrSyntax)
	lists.failsAt(t, within(slices.Repeat([]string{"{"}, 20), "@else {}"), api.ErrSyntax)
	lists.failsAt(t, within(slices.Repeat([]string{"{"}, 20), "while @{} "), api.ErrSyntax)
}

// TestHops: P6.1, P6.2: eight arrows of a path and nine, wherever a path may stand.
func TestHops(t *testing.T) {
	eight := "x" + strings.Repeat("->n", 8)
	for _, src := range []string{"# = null;", "x = #;", "free(#);", "p(#);", "p(null, #, x);", "if (# == x) { }", "if (x != #) { }", "while (# < 1) { }", "while (1 >= #) {}"} {
		lists.passes(t, strings.ReplaceAll(src, "#", eight))
		programs.passes(t, inProc(strings.ReplaceAll(src, "#", eight)+"}"))
		for _, tail := range []string{"->n", "->", "->n->n", "->1", "-> ; }"} {
			text := strings.ReplaceAll(src, "#", eight+"@"+tail)
			lists.failsAt(t, text, api.ErrMany)
			programs.failsAt(t, inProc(text+"}"), api.ErrMany)
			lists.failsAt(t, text[:strings.Index(text, "@")+3], api.ErrMany)
		}
	}
	for _, src := range []string{"# = #;", "p(#, #, #);", "if (# == #) { # = #; free(#); }"} {
		lists.passes(t, strings.ReplaceAll(src, "#", eight))
	}
	lists.failsAt(t, "x = y + z@"+eight[1:]+"->n;", api.ErrSyntax)
	lists.failsAt(t, eight+"@;"+eight+"->n;", api.ErrSyntax)
}

// TestMany: P6.1, P6.2: 400 statements in a text and 401.
func TestMany(t *testing.T) {
	for _, one := range []string{";", "x = y;", "free(x->n);", "p(1, x);", "{}", "if (?) {}", "if (?) {} else {}", "while (?) {}"} {
		all := strings.Repeat(one, 400)
		lists.passes(t, all)
		programs.passes(t, inProc(all+"}"))
		for _, more := range []string{";", "x = y;", "free(x);", "p();", "{}", "if (?) {}", "while (?) {}", "x ) ", "x", "if", "while )", "t * x;"} {
			lists.failsAt(t, all+"@"+more, api.ErrMany)
			programs.failsAt(t, inProc(all+"@"+more+"}"), api.ErrMany)
		}
		for _, more := range []string{"@)", "@int i;", "@,", "@->", "@1"} {
			lists.failsAt(t, all+more, api.ErrSyntax)
			programs.failsAt(t, inProc(all+more+"}"), api.ErrSyntax)
		}
		lists.failsAt(t, all+"@}", api.ErrSyntax)
		programs.failsAt(t, inProc(all+"@"), api.ErrSyntax)
	}
}

// TestManyAcross: P6.1: statements count in all procedures; what is no statement does not.
func TestManyAcross(t *testing.T) {
	most := inProc(strings.Repeat(";", 150) + "} void q() { x = y; " + strings.Repeat("{ p(); }", 124) + "} int j; void r() {")
	programs.passes(t, most+"; }")
	programs.failsAt(t, most+"; @; }", api.ErrMany)
	programs.passes(t, most+"; } struct u { t * n; u * m; } t * y; void s(t * a, int b) { int i; t * x; int j; u * y; }")
	for _, tail := range []string{"@x = y;", "int i; t * x; @;", "t * x; @x = null;", "@x", "@free", "@p();", "@{ }", "@t->n = x; t * x;"} {
		programs.failsAt(t, most+"; } void s() { "+tail, api.ErrMany)
	}
	for _, tail := range []string{"t * @= y;", "t *@", "@)", "int @* x;", "t * x;@"} {
		programs.failsAt(t, most+"; } void s() { "+tail, api.ErrSyntax)
	}
	programs.failsAt(t, most+"; @t * x; }", api.ErrMany)
}

// TestManyWithin: P6.1, P6.2: a statement stands ahead of those in its blocks.
func TestManyWithin(t *testing.T) {
	for _, head := range nests() {
		one := 1 + strings.Count(head, ";")
		lists.passes(t, head+strings.Repeat(";", 400-one)+"}")
		lists.failsAt(t, head+strings.Repeat(";", 400-one)+"@; }", api.ErrMany)
		lists.failsAt(t, head+strings.Repeat(";", 400-one)+"} @;", api.ErrMany)
		lists.passes(t, strings.Repeat(";", 400-one)+head+"}")
		lists.failsAt(t, strings.Repeat(";", 400-one)+head+"@; }", api.ErrMany)
	}
}

// TestCapsAtOnce: P6.1, P6.2: what is wrong at one place is told in the order in which the chapter names it.
func TestCapsAtOnce(t *testing.T) {
	deep := strings.Repeat("{", 20) + strings.Repeat(";", 380)
	lists.passes(t, deep+strings.Repeat("}", 20))
	lists.failsAt(t, deep+"@{", api.ErrDeep)
	lists.failsAt(t, deep+"}@{", api.ErrMany)
	lists.failsAt(t, deep+"@;", api.ErrMany)
	lists.failsAt(t, deep+"@if (?) {", api.ErrMany)
	lists.failsAt(t, deep+"@", api.ErrSyntax)
	lists.failsAt(t, deep+"@(", api.ErrSyntax)
	lists.failsAt(t, deep+"@else {", api.ErrSyntax)
	programs.failsAt(t, "void p() {"+deep+"@{", api.ErrDeep)
	programs.failsAt(t, "void p() {"+deep+"@x", api.ErrMany)
	programs.failsAt(t, "void p() {"+deep+"@null", api.ErrSyntax)
}

// TestFirstError: P6.1, P6.2: of two errors in a text the first one counts, but those of signs stand ahead of all.
func TestFirstError(t *testing.T) {
	deep, hops, many := strings.Repeat("{", 20), "x"+strings.Repeat("->n", 8), strings.Repeat(";", 400)
	wrong := map[string]api.Errno{"x @x;": api.ErrSyntax, deep + "@{": api.ErrDeep, hops + "@->n;": api.ErrMany, many + "@;": api.ErrMany}
	for first, err := range wrong {
		for second := range wrong {
			second = strings.Replace(second, "@", "", 1)
			lists.failsAt(t, first+second, err)
			programs.failsAt(t, "void p() {"+first+second, err)
		}
		for sign, signErr := range map[string]api.Errno{"$": api.ErrSign, "abcdefghijklmnopq": api.ErrLong, "1234567890": api.ErrLong, "/": api.ErrSign, "!": api.ErrSign} {
			text := strings.Replace(first, "@", "", 1)
			for _, c := range both() {
				c.failsAt(t, text+" @"+sign, signErr)
				c.failsAt(t, "@"+sign+" "+text, signErr)
			}
		}
	}
}

// TestLong: P6.1, P6.2: texts as long as may be, and longer ones.
func TestLong(t *testing.T) {
	for _, c := range both() {
		c.passes(t, strings.Repeat(" ", 65536))
		c.passes(t, strings.Repeat("/", 65536))
		for _, one := range []string{" ", ";", "{", "}", "x", "$", "->", "(", "int x;", "struct t{}", "void p(){}", "if(?){"} {
			c.judged(t, strings.Repeat(one, 65536/len(one)))
			c.fails(t, strings.Repeat(one, 65537), 0, api.ErrLong)
		}
	}
	lists.passes(t, "x = y;"+strings.Repeat("\n", 65530))
	lists.fails(t, "x = y;"+strings.Repeat("\n", 65531), 0, api.ErrLong)
	lists.fails(t, "x = y"+strings.Repeat("\n", 65531), 65536, api.ErrSyntax)
}
