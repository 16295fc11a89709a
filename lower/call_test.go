package lower_test

import "testing"

// behind holds samples of texts that are main's Body: behind base and these procedures.
func behind(t *testing.T, procs string, samples ...sample) {
	t.Helper()
	within(t, base+procs+" ", samples)
}

// P13.1: Call of what has no parameters.
func TestCallsWithoutArguments(t *testing.T) {
	behind(t, "void p() { }", sample{"@a p();", "points 2, end 1, vars 3, ints 2", "0 -> 1 skip @a"})
	behind(t, "void p() { @b; @c x = y; }", sample{"@a p();", "points 4, end 3, vars 3, ints 2", `
		0 -> 1 skip @a
		1 -> 2 skip @b
		2 -> 3 copy p0 p1 @c`})
	behind(t, "void p() { @b; }", sample{"@a p(); @c p(); @d{ @e p(); }", "points 7, end 6, vars 3, ints 2", `
		0 -> 1 skip @a
		1 -> 2 skip @b
		2 -> 3 skip @c
		3 -> 4 skip @b
		4 -> 5 skip @e
		5 -> 6 skip @b`})
	behind(t, "void p() { t* a; int k; u* b; int l; }", sample{"@a p();", "points 6, end 5, vars 5, ints 4", `
		0 -> 1 skip @a
		1 -> 2 put i2 0 @a
		2 -> 3 put i3 0 @a
		3 -> 4 null p3 @a
		4 -> 5 null p4 @a`})
	behind(t, "void p() { t* a; int k; @b a = x@c->n@d->n; @e k = k + 1; }", sample{"@a p();", "points 8, end 7, vars 5, ints 3", `
		0 -> 1 skip @a
		1 -> 2 put i2 0 @a
		2 -> 3 load p4 p0 f0 @c
		3 -> 4 load p3 p4 f0 @d
		4 -> 5 null p4 @b
		5 -> 6 put i2 i2 + 1 @e
		6 -> 7 null p3 @a`})
	behind(t, "void p() { @b while (@c?) { @d; } }", sample{"@a p(); @e if (@f?) { @g p(); }", "points 14, end 13, vars 3, heads [2 9]", `
		0 -> 1 skip @a
		1 -> 2 skip @b
		2 -> 3 pick yes @c
		2 -> 4 pick no @c
		3 -> 5 skip @d
		5 -> 2 skip @b
		4 -> 6 pick yes @f
		4 -> 7 pick no @f
		6 -> 8 skip @g
		8 -> 9 skip @b
		9 -> 10 pick yes @c
		9 -> 11 pick no @c
		10 -> 12 skip @d
		12 -> 9 skip @b
		11 -> 13 skip @e
		7 -> 13 skip @e`})
}

// P13.1: pointers are handed on: the frame's pointers are null behind the body.
func TestPointersAreHandedOn(t *testing.T) {
	behind(t, "void p(t* q) { @b; }",
		sample{"@a p(@c null);", "points 5, end 4, vars 4, ints 2", `
			0 -> 1 skip @a
			1 -> 2 null p3 @a
			2 -> 3 skip @b
			3 -> 4 null p3 @a`},
		sample{"@a p(@c y);", "points 5, end 4, vars 4", `
			0 -> 1 skip @a
			1 -> 2 copy p3 p1 @a
			2 -> 3 skip @b
			3 -> 4 null p3 @a`},
		sample{"@a p(@c y@d->n);", "points 5, end 4, vars 4", `
			0 -> 1 skip @a
			1 -> 2 load p3 p1 f0 @d
			2 -> 3 skip @b
			3 -> 4 null p3 @a`},
		sample{"@a p(@c y@d->m@e->o@f->n);", "points 8, end 7, vars 5", `
			0 -> 1 skip @a
			1 -> 2 load p4 p1 f1 @d
			2 -> 3 load p4 p4 f2 @e
			3 -> 4 load p3 p4 f0 @f
			4 -> 5 null p4 @a
			5 -> 6 skip @b
			6 -> 7 null p3 @a`})
	behind(t, "void p(t* q, u* r, t* s) { @b q = s; }", sample{"t* a; @a p(x@c->n@d->n, null, a@e->m@f->o);", "points 13, end 12, vars 8, ints 2", `
		0 -> 1 skip @a
		1 -> 2 load p7 p0 f0 @c
		2 -> 3 load p4 p7 f0 @d
		3 -> 4 null p7 @a
		4 -> 5 null p5 @a
		5 -> 6 load p7 p3 f1 @e
		6 -> 7 load p6 p7 f2 @f
		7 -> 8 null p7 @a
		8 -> 9 copy p4 p6 @b
		9 -> 10 null p4 @a
		10 -> 11 null p5 @a
		11 -> 12 null p6 @a`})
}

// P13.1: numbers are handed on; those of the frame stay as they are behind the body.
func TestNumbersAreHandedOn(t *testing.T) {
	behind(t, "void p(int k) { @b k = k + j; }",
		sample{"@a p(@c 7);", "points 4, end 3, vars 3, ints 3", `
			0 -> 1 skip @a
			1 -> 2 put i2 7 @a
			2 -> 3 put i2 i2 + i1 @b`},
		sample{"@a p(@c 0);", "points 4, end 3, vars 3, ints 3", `
			0 -> 1 skip @a
			1 -> 2 put i2 0 @a
			2 -> 3 put i2 i2 + i1 @b`},
		sample{"@a p(@c j);", "points 4, end 3, vars 3, ints 3", `
			0 -> 1 skip @a
			1 -> 2 put i2 i1 @a
			2 -> 3 put i2 i2 + i1 @b`},
		sample{"int l; int m; @a p(@c m);", "points 4, end 3, vars 3, ints 5", `
			0 -> 1 skip @a
			1 -> 2 put i4 i3 @a
			2 -> 3 put i4 i4 + i1 @b`})
}

// P13.1: parameters and locals of both kinds: all arguments come first, then the numbers of the locals.
func TestFrames(t *testing.T) {
	behind(t, "void p(t* q, int k, u* r, int l) { t* s; int m; u* w; int o; @f s = q; @g m = l; @h w = r; @i o = k; }", sample{
		"t* a; int b; @a p(x@b->n@c->n, 5, y@d->n@e->m, i); @j;", "points 21, end 20, vars 9, ints 7", `
		0 -> 1 skip @a
		1 -> 2 load p8 p0 f0 @b
		2 -> 3 load p4 p8 f0 @c
		3 -> 4 null p8 @a
		4 -> 5 put i3 5 @a
		5 -> 6 load p8 p1 f0 @d
		6 -> 7 load p5 p8 f1 @e
		7 -> 8 null p8 @a
		8 -> 9 put i4 i0 @a
		9 -> 10 put i5 0 @a
		10 -> 11 put i6 0 @a
		11 -> 12 copy p6 p4 @f
		12 -> 13 put i5 i4 @g
		13 -> 14 copy p7 p5 @h
		14 -> 15 put i6 i3 @i
		15 -> 16 null p4 @a
		16 -> 17 null p5 @a
		17 -> 18 null p6 @a
		18 -> 19 null p7 @a
		19 -> 20 skip @j`})
	behind(t, "void p(int k, t* q) { int l; @b free(q@c->n); }", sample{
		"@a p(4, x); @d p(j, null);", "points 17, end 16, vars 5, ints 4", `
		0 -> 1 skip @a
		1 -> 2 put i2 4 @a
		2 -> 3 copy p3 p0 @a
		3 -> 4 put i3 0 @a
		4 -> 5 load p4 p3 f0 @c
		5 -> 6 free p4 @b
		6 -> 7 null p4 @b
		7 -> 8 null p3 @a
		8 -> 9 skip @d
		9 -> 10 put i2 i1 @d
		10 -> 11 null p3 @d
		11 -> 12 put i3 0 @d
		12 -> 13 load p4 p3 f0 @c
		13 -> 14 free p4 @b
		14 -> 15 null p4 @b
		15 -> 16 null p3 @d`})
}

// P13.1: frames stand behind those of the callers, and end with their call: the next one begins where it began.
func TestFramesWithinFrames(t *testing.T) {
	behind(t, "void q(t* b, int n) { t* c; @e c = b; } void p(t* a) { int m; @b q(a, m); @c q(x, 1); @d a = null; }", sample{
		"t* l; @a p(l); @f q(null, j); @g l = l@h->n@i->n;", "points 27, end 26, vars 7, ints 4", `
		0 -> 1 skip @a
		1 -> 2 copy p4 p3 @a
		2 -> 3 put i2 0 @a
		3 -> 4 skip @b
		4 -> 5 copy p5 p4 @b
		5 -> 6 put i3 i2 @b
		6 -> 7 copy p6 p5 @e
		7 -> 8 null p5 @b
		8 -> 9 null p6 @b
		9 -> 10 skip @c
		10 -> 11 copy p5 p0 @c
		11 -> 12 put i3 1 @c
		12 -> 13 copy p6 p5 @e
		13 -> 14 null p5 @c
		14 -> 15 null p6 @c
		15 -> 16 null p4 @d
		16 -> 17 null p4 @a
		17 -> 18 skip @f
		18 -> 19 null p4 @f
		19 -> 20 put i2 i1 @f
		20 -> 21 copy p5 p4 @e
		21 -> 22 null p4 @f
		22 -> 23 null p5 @f
		23 -> 24 load p4 p3 f0 @h
		24 -> 25 load p3 p4 f0 @i
		25 -> 26 null p4 @g`})
}

// P13.1: arguments name what the caller's names mean; the Body's names mean what is the procedure's own, or global, never what is the caller's.
func TestNamesOfCallers(t *testing.T) {
	behind(t, "void p(int x, t* i, u* y) { int z; @b x = z; @c i = i@d->n; @e j = x; @f y@g->o = i; @h k = 2; } int k;", sample{
		"t* i; int x; u* y; int k; @a p(x, i@i->n@j->n, y); @k x = k; @l y@m->o = i;", "points 19, end 18, vars 8, ints 7", `
		0 -> 1 skip @a
		1 -> 2 put i5 i3 @a
		2 -> 3 load p7 p3 f0 @i
		3 -> 4 load p5 p7 f0 @j
		4 -> 5 null p7 @a
		5 -> 6 copy p6 p4 @a
		6 -> 7 put i6 0 @a
		7 -> 8 put i5 i6 @b
		8 -> 9 load p5 p5 f0 @d
		9 -> 10 put i1 i5 @e
		10 -> 11 cut p6 f2 @g
		11 -> 12 link p6 f2 p5 @g
		12 -> 13 put i2 2 @h
		13 -> 14 null p5 @a
		14 -> 15 null p6 @a
		15 -> 16 put i3 i4 @k
		16 -> 17 cut p4 f2 @m
		17 -> 18 link p4 f2 p3 @m`})
	behind(t, "void q(t* x, t* y) { @b y = x; @c i = 3; } void p(t* y, t* x) { int i; @d q(y, x); @e q(x@f->n, y); @g i = 4; }", sample{
		"@a p(x, y);", "points 22, end 21, vars 7, ints 3", `
		0 -> 1 skip @a
		1 -> 2 copy p3 p0 @a
		2 -> 3 copy p4 p1 @a
		3 -> 4 put i2 0 @a
		4 -> 5 skip @d
		5 -> 6 copy p5 p3 @d
		6 -> 7 copy p6 p4 @d
		7 -> 8 copy p6 p5 @b
		8 -> 9 put i0 3 @c
		9 -> 10 null p5 @d
		10 -> 11 null p6 @d
		11 -> 12 skip @e
		12 -> 13 load p5 p4 f0 @f
		13 -> 14 copy p6 p3 @e
		14 -> 15 copy p6 p5 @b
		15 -> 16 put i0 3 @c
		16 -> 17 null p5 @e
		17 -> 18 null p6 @e
		18 -> 19 put i2 4 @g
		19 -> 20 null p3 @a
		20 -> 21 null p4 @a`})
	behind(t, "void p(t* a, t* a0) { @b a = x; }", sample{"t* b; @a p(b, b);", "points 7, end 6, vars 6, ints 2", `
		0 -> 1 skip @a
		1 -> 2 copy p4 p3 @a
		2 -> 3 copy p5 p3 @a
		3 -> 4 copy p4 p0 @b
		4 -> 5 null p4 @a
		5 -> 6 null p5 @a`})
}

// Calls within blocks of the Body and in the caller's branches; conditions of the callee's names.
func TestCallsInBranches(t *testing.T) {
	behind(t, "void q(int n) { } void p(t* a, u* i) { @b while (@c a@d->m == i) { @e{ @f q(5); } } }", sample{
		"@a if (@g i == 1) { @h p(y, z); } else { @i q(i); }", "points 19, end 18, vars 6, ints 3, heads [6]", `
		0 -> 1 test i0 == 1 yes @g
		0 -> 2 test i0 == 1 no @g
		1 -> 3 skip @h
		3 -> 4 copy p3 p1 @h
		4 -> 5 copy p4 p2 @h
		5 -> 6 skip @b
		6 -> 7 load p5 p3 f1 @d
		7 -> 8 same p5 p4 yes @c
		7 -> 9 same p5 p4 no @c
		8 -> 10 null p5 @b
		9 -> 11 null p5 @b
		10 -> 12 skip @f
		12 -> 13 put i2 5 @f
		13 -> 6 skip @b
		11 -> 14 null p3 @h
		14 -> 15 null p4 @h
		2 -> 16 skip @i
		16 -> 17 put i2 i0 @i
		15 -> 18 skip @a
		17 -> 18 skip @a`})
}
