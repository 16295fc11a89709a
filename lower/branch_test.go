package lower_test

import "testing"

// P13.1: If, by its bodies.
func TestIf(t *testing.T) {
	within(t, base, []sample{
		{"@a if (@b?) { }", "points 4, end 3, vars 3, ints 2, heads []", `
			0 -> 1 pick yes @b
			0 -> 2 pick no @b
			1 -> 3 skip @a
			2 -> 3 skip @a`},
		{"@a if (@b?) { } else { }", "points 4, end 3, heads []", `
			0 -> 1 pick yes @b
			0 -> 2 pick no @b
			1 -> 3 skip @a
			2 -> 3 skip @a`},
		{"@a if (@b?) { @c; }", "points 5, end 4, heads []", `
			0 -> 1 pick yes @b
			0 -> 2 pick no @b
			1 -> 3 skip @c
			3 -> 4 skip @a
			2 -> 4 skip @a`},
		{"@a if (@b?) { } else { @c; }", "points 5, end 4, heads []", `
			0 -> 1 pick yes @b
			0 -> 2 pick no @b
			2 -> 3 skip @c
			1 -> 4 skip @a
			3 -> 4 skip @a`},
		{"@y; @a if (@b?) { @c; } else { @d; @e; } @f;", "points 9, end 8, heads []", `
			0 -> 1 skip @y
			1 -> 2 pick yes @b
			1 -> 3 pick no @b
			2 -> 4 skip @c
			3 -> 5 skip @d
			5 -> 6 skip @e
			4 -> 7 skip @a
			6 -> 7 skip @a
			7 -> 8 skip @f`},
		{"@a if (@b?) { @c if (@d?) { @e; } } else { @f{ @g if (@h?) { } else { @i; } } }", "points 12, end 11, heads []", `
			0 -> 1 pick yes @b
			0 -> 2 pick no @b
			1 -> 3 pick yes @d
			1 -> 4 pick no @d
			3 -> 5 skip @e
			5 -> 6 skip @c
			4 -> 6 skip @c
			2 -> 7 pick yes @h
			2 -> 8 pick no @h
			8 -> 9 skip @i
			7 -> 10 skip @g
			9 -> 10 skip @g
			6 -> 11 skip @a
			10 -> 11 skip @a`},
	})
}

// question is a condition without hops, and the branches that it makes.
type question struct {
	cond string
	yes  string
	no   string
}

var questions = []question{
	{"@b?", "pick yes @b", "pick no @b"},
	{"@b x == y", "same p0 p1 yes @b", "same p0 p1 no @b"},
	{"@b y != x", "same p1 p0 no @b", "same p1 p0 yes @b"},
	{"@b z == z", "same p2 p2 yes @b", "same p2 p2 no @b"},
	{"@b x == null", "same p0 null yes @b", "same p0 null no @b"},
	{"@b z != null", "same p2 null no @b", "same p2 null yes @b"},
	{"@b null == y", "same null p1 yes @b", "same null p1 no @b"},
	{"@b null != z", "same null p2 no @b", "same null p2 yes @b"},
	{"@b null == null", "same null null yes @b", "same null null no @b"},
	{"@b null != null", "same null null no @b", "same null null yes @b"},
	{"@b i == j", "test i0 == i1 yes @b", "test i0 == i1 no @b"},
	{"@b j != i", "test i1 == i0 no @b", "test i1 == i0 yes @b"},
	{"@b i < j", "test i0 < i1 yes @b", "test i0 < i1 no @b"},
	{"@b j >= i", "test i1 < i0 no @b", "test i1 < i0 yes @b"},
	{"@b i == 3", "test i0 == 3 yes @b", "test i0 == 3 no @b"},
	{"@b 999999999 == j", "test 999999999 == i1 yes @b", "test 999999999 == i1 no @b"},
	{"@b 0 != i", "test 0 == i0 no @b", "test 0 == i0 yes @b"},
	{"@b j < 0", "test i1 < 0 yes @b", "test i1 < 0 no @b"},
	{"@b 5 < i", "test 5 < i0 yes @b", "test 5 < i0 no @b"},
	{"@b i >= 2", "test i0 < 2 no @b", "test i0 < 2 yes @b"},
	{"@b 4 >= j", "test 4 < i1 no @b", "test 4 < i1 yes @b"},
	{"@b 1 == 2", "test 1 == 2 yes @b", "test 1 == 2 no @b"},
	{"@b 1 >= 1", "test 1 < 1 no @b", "test 1 < 1 yes @b"},
}

// P13.1: all conditions without hops, of If and of While.
func TestConditions(t *testing.T) {
	for _, q := range questions {
		within(t, base, []sample{
			{"@a if (" + q.cond + ") { @c; }", "points 5, end 4, vars 3, ints 2, heads []", "0 -> 1 " + q.yes + "\n 0 -> 2 " + q.no + `
				1 -> 3 skip @c
				3 -> 4 skip @a
				2 -> 4 skip @a`},
			{"@a while (" + q.cond + ") { @c; }", "points 5, end 3, vars 3, ints 2, heads [1]", "0 -> 1 skip @a\n 1 -> 2 " + q.yes + "\n 1 -> 3 " + q.no + `
				2 -> 4 skip @c
				4 -> 1 skip @a`},
		})
	}
}

// P13.1: paths with hops in conditions: their temps end at both points.
func TestConditionsWithHops(t *testing.T) {
	within(t, base, []sample{
		{"@a if (@b x@c->n == @d y@e->n@f->n) { @g; } else { @h; } @i;", "points 14, end 13, vars 5, heads []", `
			0 -> 1 load p3 p0 f0 @c
			1 -> 2 load p4 p1 f0 @e
			2 -> 3 load p4 p4 f0 @f
			3 -> 4 same p3 p4 yes @b
			3 -> 5 same p3 p4 no @b
			4 -> 6 null p3 @a
			6 -> 7 null p4 @a
			5 -> 8 null p3 @a
			8 -> 9 null p4 @a
			7 -> 10 skip @g
			9 -> 11 skip @h
			10 -> 12 skip @a
			11 -> 12 skip @a
			12 -> 13 skip @i`},
		{"@a if (@b null != z@c->o@d->m) { }", "points 8, end 7, vars 4, heads []", `
			0 -> 1 load p3 p2 f2 @c
			1 -> 2 load p3 p3 f1 @d
			2 -> 3 same null p3 no @b
			2 -> 4 same null p3 yes @b
			3 -> 5 null p3 @a
			4 -> 6 null p3 @a
			5 -> 7 skip @a
			6 -> 7 skip @a`},
		{"@a if (@b y@c->n != x) { } else { @d free(y@e->n); }", "points 10, end 9, vars 4, heads []", `
			0 -> 1 load p3 p1 f0 @c
			1 -> 2 same p3 p0 no @b
			1 -> 3 same p3 p0 yes @b
			2 -> 4 null p3 @a
			3 -> 5 null p3 @a
			5 -> 6 load p3 p1 f0 @e
			6 -> 7 free p3 @d
			7 -> 8 null p3 @d
			4 -> 9 skip @a
			8 -> 9 skip @a`},
		{"@a if (@b x == y@c->n) { @d x = y@e->n@f->n; }", "points 10, end 9, vars 4, heads []", `
			0 -> 1 load p3 p1 f0 @c
			1 -> 2 same p0 p3 yes @b
			1 -> 3 same p0 p3 no @b
			2 -> 4 null p3 @a
			3 -> 5 null p3 @a
			4 -> 6 load p3 p1 f0 @e
			6 -> 7 load p0 p3 f0 @f
			7 -> 8 null p3 @d
			8 -> 9 skip @a
			5 -> 9 skip @a`},
		{"@a while (@b x@c->n != null) { @d x = x@e->n@f->n; } @g;", "points 11, end 10, vars 4, heads [1]", `
			0 -> 1 skip @a
			1 -> 2 load p3 p0 f0 @c
			2 -> 3 same p3 null no @b
			2 -> 4 same p3 null yes @b
			3 -> 5 null p3 @a
			4 -> 6 null p3 @a
			5 -> 7 load p3 p0 f0 @e
			7 -> 8 load p0 p3 f0 @f
			8 -> 9 null p3 @d
			9 -> 1 skip @a
			6 -> 10 skip @g`},
		{"@a while (@b x@c->m == y@d->m) { }", "points 10, end 9, vars 5, heads [1]", `
			0 -> 1 skip @a
			1 -> 2 load p3 p0 f1 @c
			2 -> 3 load p4 p1 f1 @d
			3 -> 4 same p3 p4 yes @b
			3 -> 5 same p3 p4 no @b
			4 -> 6 null p3 @a
			6 -> 7 null p4 @a
			5 -> 8 null p3 @a
			8 -> 9 null p4 @a
			7 -> 1 skip @a`},
	})
}

// P13.1: While, by its body and by what stands around it.
func TestWhile(t *testing.T) {
	within(t, base, []sample{
		{"@a while (@b?) { }", "points 4, end 3, vars 3, ints 2, heads [1]", `
			0 -> 1 skip @a
			1 -> 2 pick yes @b
			1 -> 3 pick no @b
			2 -> 1 skip @a`},
		{"@y; @a while (@b?) { @c; @d; } @e;", "points 8, end 7, heads [2]", `
			0 -> 1 skip @y
			1 -> 2 skip @a
			2 -> 3 pick yes @b
			2 -> 4 pick no @b
			3 -> 5 skip @c
			5 -> 6 skip @d
			6 -> 2 skip @a
			4 -> 7 skip @e`},
		{"@a while (@b?) { @c while (@d?) { @e; } @f; } @g while (@h?) { }", "points 12, end 11, heads [1 4 9]", `
			0 -> 1 skip @a
			1 -> 2 pick yes @b
			1 -> 3 pick no @b
			2 -> 4 skip @c
			4 -> 5 pick yes @d
			4 -> 6 pick no @d
			5 -> 7 skip @e
			7 -> 4 skip @c
			6 -> 8 skip @f
			8 -> 1 skip @a
			3 -> 9 skip @g
			9 -> 10 pick yes @h
			9 -> 11 pick no @h
			10 -> 9 skip @g`},
		{"@a while (@b?) { @c while (@d?) { } }", "points 7, end 3, heads [1 4]", `
			0 -> 1 skip @a
			1 -> 2 pick yes @b
			1 -> 3 pick no @b
			2 -> 4 skip @c
			4 -> 5 pick yes @d
			4 -> 6 pick no @d
			5 -> 4 skip @c
			6 -> 1 skip @a`},
		{"@a if (@b?) { @c while (@d?) { @e if (@f?) { } } } else { @g while (@h?) { @i; } }", "points 14, end 13, heads [3 9]", `
			0 -> 1 pick yes @b
			0 -> 2 pick no @b
			1 -> 3 skip @c
			3 -> 4 pick yes @d
			3 -> 5 pick no @d
			4 -> 6 pick yes @f
			4 -> 7 pick no @f
			6 -> 8 skip @e
			7 -> 8 skip @e
			8 -> 3 skip @c
			2 -> 9 skip @g
			9 -> 10 pick yes @h
			9 -> 11 pick no @h
			10 -> 12 skip @i
			12 -> 9 skip @g
			5 -> 13 skip @a
			11 -> 13 skip @a`},
	})
}

// What a condition names is what main's locals and globals are, as in all statements.
func TestConditionsOfHiddenNames(t *testing.T) {
	within(t, base, []sample{
		{"int x; t* i; @a if (@b x < j) { } @c while (@d i == y) { }", "points 7, end 6, vars 4, ints 3, heads [4]", `
			0 -> 1 test i2 < i1 yes @b
			0 -> 2 test i2 < i1 no @b
			1 -> 3 skip @a
			2 -> 3 skip @a
			3 -> 4 skip @c
			4 -> 5 same p3 p1 yes @d
			4 -> 6 same p3 p1 no @d
			5 -> 4 skip @c`},
		{"u* i; t* k; @a if (@b i@c->o != k@d->n) { } @e if (@f null == i) { }", "points 13, end 12, vars 7, ints 2, heads []", `
			0 -> 1 load p5 p3 f2 @c
			1 -> 2 load p6 p4 f0 @d
			2 -> 3 same p5 p6 no @b
			2 -> 4 same p5 p6 yes @b
			3 -> 5 null p5 @a
			5 -> 6 null p6 @a
			4 -> 7 null p5 @a
			7 -> 8 null p6 @a
			6 -> 9 skip @a
			8 -> 9 skip @a
			9 -> 10 same null p3 yes @f
			9 -> 11 same null p3 no @f
			10 -> 12 skip @e
			11 -> 12 skip @e`},
	})
}
