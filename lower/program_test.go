package lower_test

import (
	"testing"

	"umbral/api"
	"umbral/graph"
)

// programs are ordinary ones: what they do is known.
var programs = []struct {
	text   string
	points int
	heads  int
}{
	{"struct t { t* n; } t* x; t* y; void main() { }", 1, 0},
	{"struct t { t* n; } t* x; t* y; void main() { x = new t; x->n = null; x = null; }", 4, 0},
	{"struct t { t* n; } t* x; t* y; void main() { x = new t; if (x != null) { free(x); } }", 6, 0},
	{"struct t { t* n; } t* x; t* y; void main() { x = new t; if (x != null) { free(x); free(x); } }", 7, 0},
	{"struct t { t* n; } t* x; t* y; void main() { x = new t; if (x != null) { free(x); y = x->n; } }", 7, 0},
	{"struct t { t* n; } t* x; t* y; void main() { while (?) { y = new t; if (y != null) { y->n = x; x = y; } } }", 11, 1},
	{`struct t { t* n; } t* all;
		void push(t* a) { if (a != null) { a->n = all; all = a; } }
		void turn() { t* done; t* next; while (all != null) { next = all->n; all->n = done; done = all; all = next; } all = done; }
		void drop() { t* a; while (all != null) { a = all; all = all->n; free(a); } }
		void main() { t* a; int k; k = input; while (0 < k) { a = new t; push(a); k = k - 1; } a = null; turn(); drop(); }`, 37, 3},
	{`struct t { t* l; t* r; t* up; } t* root;
		void join(t* a, t* b) { if (a != null) { if (b != null) { a->l = b; b->up = a; } } }
		void main() { root = new t; if (root != null) { root->l = new t; if (root->l != null) { root->l->r = new t; join(root->l->r, root); join(root->l->l, root); free(root->l->r); } } }`, 59, 0},
}

func TestPrograms(t *testing.T) {
	for _, c := range programs {
		p, _ := read(t, c.text)
		g, err := holdModel(t, c.text, p)
		if err != api.OK || g.Points != c.points || len(g.Heads) != c.heads || graph.Loops(g) != (c.heads > 0) {
			t.Errorf("%s: %v, %q", c.text, err, facts(g))
		}
		for script := range 1 << 8 {
			inputs := []int{script % 5}
			for bit := range 8 {
				inputs = append(inputs, script>>bit&1)
			}
			holdRuns(t, c.text, p, g, inputs)
			holdRuns(t, c.text, p, g, inputs[1:])
		}
	}
}
