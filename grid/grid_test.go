package grid_test

import (
	"math"
	"slices"
	"testing"

	"umbral/api"
	"umbral/grid"
	"umbral/kleene"
)

const (
	no    = kleene.False
	maybe = kleene.Maybe
	yes   = kleene.True
)

// meanings holds floats of any kind, each with the truth that it means.
func meanings() [][2]float64 {
	return [][2]float64{
		{0, no}, {0.5, maybe}, {1, yes},
		{0.25, maybe}, {0.75, maybe}, {7, yes}, {-7, no},
		{math.Copysign(0, -1), no},
		{math.SmallestNonzeroFloat64, maybe}, {-math.SmallestNonzeroFloat64, no},
		{math.Nextafter(1, 0), maybe}, {math.Nextafter(1, 2), yes},
		{math.MaxFloat64, yes}, {-math.MaxFloat64, no},
		{math.Inf(1), yes}, {math.Inf(-1), no},
		{math.NaN(), maybe}, {math.Copysign(math.NaN(), -1), maybe},
		{math.Float64frombits(0x7FF0000000000001), maybe},
	}
}

// outside holds pairs of places of which a table of n has at most one.
func outside(n int) [][2]int {
	pairs := [][2]int{{math.MinInt, math.MinInt}, {math.MaxInt, math.MaxInt}, {n, n}, {-1, -1}, {-1, n}, {n, -1}, {-1, n + 1}}
	for i := -1; i <= n; i++ {
		for _, wrong := range []int{-1, n, n + 1, -n, n * n, math.MinInt, math.MaxInt} {
			if wrong < 0 || wrong >= n {
				pairs = append(pairs, [2]int{i, wrong}, [2]int{wrong, i})
			}
		}
	}
	return pairs
}

func bits(l []float64) []uint64 {
	out := make([]uint64, len(l))
	for i, x := range l {
		out[i] = math.Float64bits(x)
	}
	return out
}

// same holds floats against each other bit by bit: == tells neither a nought's sign nor a NaN.
func same(t *testing.T, what string, got, want []float64, args ...any) {
	t.Helper()
	if !slices.Equal(bits(got), bits(want)) {
		t.Errorf("%s of %v: %v, want %v", what, args, got, want)
	}
}

// table makes a table of n places with the steps l, from place by place.
func table(t *testing.T, n int, l ...float64) *grid.Grid {
	t.Helper()
	g, err := grid.New(n)
	if err != api.OK || g == nil {
		t.Fatalf("New(%d): %v, %v", n, g, err)
	}
	for i, x := range l {
		if !g.Set(i/n, i%n, x) {
			t.Fatalf("Set(%d, %d) of %d places: false", i/n, i%n, n)
		}
	}
	return g
}

// all tells the truths of a table, from place by place.
func all(g *grid.Grid) []float64 {
	var l []float64
	for i := range g.Size() {
		for j := range g.Size() {
			l = append(l, g.At(i, j))
		}
	}
	return l
}

// lots tells truths by lot, but the same ones each time; most are False, where few is greater.
type lots uint64

func (r *lots) next(n int) int {
	*r = *r*6364136223846793005 + 1442695040888963407
	return int(*r >> 33 % lots(n))
}

func (r *lots) table(t *testing.T, n, few int) *grid.Grid {
	t.Helper()
	g := table(t, n)
	for i := range n {
		for j := range n {
			switch r.next(few) {
			case 0:
				g.Set(i, j, yes)
			case 1:
				g.Set(i, j, maybe)
			}
		}
	}
	return g
}

// tables goes over all tables of n places.
func tables(t *testing.T, n int, yield func(*grid.Grid)) {
	t.Helper()
	g := table(t, n)
	var fill func(int)
	fill = func(k int) {
		if k == n*n {
			yield(g)
			return
		}
		for _, x := range []float64{no, maybe, yes} {
			g.Set(k/n, k%n, x)
			fill(k + 1)
		}
	}
	fill(0)
}

// many goes over tables of all kinds and Sizes.
func many(t *testing.T, yield func(*grid.Grid)) {
	t.Helper()
	for n := range 4 {
		tables(t, n, yield)
	}
	r := lots(1)
	for _, n := range []int{4, 5, 7, 11, 17, 39, 40} {
		for _, few := range []int{2, 3, n, 2 * n, 4 * n} {
			for range 3 {
				yield(r.table(t, n, few))
			}
		}
	}
}

// paths tells what the chapter says of paths, word by word: the best of those of 1 step, of 2, and so on.
// A path of more steps than places goes somewhere twice, and one without that way round is as true.
func paths(g *grid.Grid) []float64 {
	n := g.Size()
	steps := all(g)
	long := slices.Clone(steps)
	best := slices.Clone(steps)
	for range n {
		next := make([]float64, n*n)
		for i := range n {
			for k := range n {
				if long[i*n+k] == no {
					continue
				}
				for j := range n {
					next[i*n+j] = max(next[i*n+j], min(long[i*n+k], steps[k*n+j]))
				}
			}
		}
		long = next
		for i := range best {
			best[i] = max(best[i], long[i])
		}
	}
	return best
}

// P2.1

func TestNew(t *testing.T) {
	for n := range api.MaxNodes + 1 {
		g, err := grid.New(n)
		if err != api.OK || g == nil {
			t.Fatalf("New(%d): %v, %v", n, g, err)
		}
		if g.Size() != n {
			t.Errorf("Size of New(%d): %d", n, g.Size())
		}
		same(t, "New", all(g), make([]float64, n*n), n)
	}
	for _, n := range []int{-1, 41, -2, 42, -40, 1600, math.MinInt, math.MaxInt, math.MinInt32, 1 << 32, 1<<32 + 1} {
		if g, err := grid.New(n); g != nil || err != api.ErrArg {
			t.Errorf("New(%d): %v, %v, want nil, %v", n, g, err, api.ErrArg)
		}
	}
}

func TestNewTablesAreUnlike(t *testing.T) {
	a, b := table(t, 3), table(t, 3)
	a.Set(1, 2, yes)
	same(t, "another table", all(b), make([]float64, 9))
}

func TestSetTakesMeanings(t *testing.T) {
	for _, m := range meanings() {
		for _, before := range []float64{no, maybe, yes} {
			g := table(t, 2, before, before, before, before)
			if !g.Set(0, 1, m[0]) {
				t.Errorf("Set to %v: false", m[0])
			}
			same(t, "Set", all(g), []float64{before, m[1], before, before}, m[0], before)
		}
	}
}

func TestSetEachPlace(t *testing.T) {
	for _, n := range []int{1, 2, 3, 39, 40} {
		g := table(t, n)
		want := make([]float64, n*n)
		for k := range n * n {
			i, j := k/n, k%n
			if !g.Set(i, j, yes) {
				t.Errorf("Set(%d, %d) of %d places: false", i, j, n)
			}
			want[k] = yes
			if k%7 == 0 || k == n*n-1 {
				same(t, "Set", all(g), want, i, j)
			}
		}
	}
}

func TestPlacesOutside(t *testing.T) {
	for _, n := range []int{0, 1, 2, 3, 40} {
		for _, x := range []float64{no, maybe, yes} {
			g := table(t, n, slices.Repeat([]float64{x}, n*n)...)
			for _, p := range outside(n) {
				same(t, "At", []float64{g.At(p[0], p[1])}, []float64{no}, n, p)
				if g.Set(p[0], p[1], yes-x) {
					t.Errorf("Set(%d, %d) of %d places: true", p[0], p[1], n)
				}
			}
			same(t, "Set outside", all(g), slices.Repeat([]float64{x}, n*n), n)
		}
	}
}

// P2.2

func TestPathsByHand(t *testing.T) {
	for _, c := range []struct {
		name        string
		n           int
		steps, want []float64
	}{
		{"nothing", 0, nil, nil},
		{"no step", 1, []float64{0}, []float64{0}},
		{"a step to itself", 1, []float64{1}, []float64{1}},
		{"it may be one to itself", 1, []float64{0.5}, []float64{0.5}},
		{"a row", 3, []float64{0, 1, 0, 0, 0, 0.5, 0, 0, 0}, []float64{0, 1, 0.5, 0, 0, 0.5, 0, 0, 0}},
		{"a row backward", 3, []float64{0, 0, 0, 1, 0, 0, 0, 1, 0}, []float64{0, 0, 0, 1, 0, 0, 1, 1, 0}},
		{"there and back", 2, []float64{0, 1, 0.5, 0}, []float64{0.5, 1, 0.5, 0.5}},
		{"a way round", 3, []float64{0, 1, 0, 0, 0, 1, 1, 0, 0}, []float64{1, 1, 1, 1, 1, 1, 1, 1, 1}},
		{"a long way is truer", 3, []float64{0, 1, 0.5, 0, 0, 1, 0, 0, 0}, []float64{0, 1, 1, 0, 0, 1, 0, 0, 0}},
		{"a short way is truer", 3, []float64{0, 0.5, 1, 0, 0, 1, 0, 0, 0}, []float64{0, 0.5, 1, 0, 0, 1, 0, 0, 0}},
		{"two parts", 4, []float64{0, 1, 0, 0, 1, 0, 0, 0, 0, 0, 0, 0.5, 0, 0, 0, 0}, []float64{1, 1, 0, 0, 1, 1, 0, 0, 0, 0, 0, 0.5, 0, 0, 0, 0}},
	} {
		same(t, "Paths", all(table(t, c.n, c.steps...).Paths()), c.want, c.name)
	}
}

func TestPathsOfLongRows(t *testing.T) {
	n := api.MaxNodes
	forward, backward := table(t, n), table(t, n)
	for i := range n - 1 {
		forward.Set(i, i+1, yes)
		backward.Set(i+1, i, yes)
	}
	for i := range n {
		for j := range n {
			onward := no
			if i < j {
				onward = yes
			}
			same(t, "Paths", []float64{forward.Paths().At(i, j), backward.Paths().At(j, i)}, []float64{onward, onward}, i, j)
		}
	}
}

func TestPathsFromOnto(t *testing.T) {
	many(t, func(g *grid.Grid) {
		n := g.Size()
		steps, want := all(g), paths(g)
		same(t, "Paths", all(g.Paths()), want, steps)
		if g.Paths().Size() != n {
			t.Errorf("Size of Paths: %d, want %d", g.Paths().Size(), n)
		}
		for i := range n {
			from, onto := make([]float64, n), make([]float64, n)
			for j := range n {
				from[j], onto[j] = want[i*n+j], want[j*n+i]
			}
			from[i], onto[i] = yes, yes
			same(t, "From", g.From(i), from, i, steps)
			same(t, "Onto", g.Onto(i), onto, i, steps)
		}
		same(t, "the table itself", all(g), steps)
	})
}

func TestFromOntoOutside(t *testing.T) {
	for _, n := range []int{0, 1, 3, 40} {
		g := table(t, n, slices.Repeat([]float64{yes}, n*n)...)
		for _, i := range []int{-1, n, n + 1, -n - 1, 41, math.MinInt, math.MaxInt} {
			if l := g.From(i); len(l) != 0 {
				t.Errorf("From(%d) of %d places: %v", i, n, l)
			}
			if l := g.Onto(i); len(l) != 0 {
				t.Errorf("Onto(%d) of %d places: %v", i, n, l)
			}
		}
	}
}

// What has been told stays, whatever is done with the table, and the other way round (R3).
func TestAnswersAreNewMemory(t *testing.T) {
	steps := []float64{0, 1, 0, 0, 0, 0.5, 0, 0, 0}
	g := table(t, 3, steps...)
	told := g.Paths()
	from, onto := g.From(0), g.Onto(2)
	for _, l := range [][]float64{g.From(0), g.From(1), g.Onto(2), g.Onto(1)} {
		room := l[:cap(l)]
		for i := range room {
			room[i] = 9
		}
	}
	other := g.Paths()
	for k := range 9 {
		other.Set(k/3, k%3, maybe)
	}
	same(t, "the table", all(g), steps)
	for k := range 9 {
		g.Set(k/3, k%3, yes)
	}
	same(t, "Paths", all(told), []float64{0, 1, 0.5, 0, 0, 0.5, 0, 0, 0})
	same(t, "From", from, []float64{1, 1, 0.5})
	same(t, "Onto", onto, []float64{0.5, 0.5, 1})
}

// P2.3

func TestMix(t *testing.T) {
	truths := []float64{no, maybe, yes}
	var a, b []float64
	for _, x := range truths {
		for _, y := range truths {
			a, b = append(a, x), append(b, y)
		}
	}
	want := []float64{no, maybe, yes, maybe, maybe, yes, yes, yes, yes}
	same(t, "Mix", all(grid.Mix(table(t, 3, a...), table(t, 3, b...))), want)
	same(t, "Mix", all(grid.Mix(table(t, 3, b...), table(t, 3, a...))), want)
	r := lots(2)
	for _, n := range []int{0, 1, 2, 5, 39, 40} {
		g, h := r.table(t, n, 3), r.table(t, n, 4)
		before, other := all(g), all(h)
		want := make([]float64, n*n)
		for i := range want {
			want[i] = max(before[i], other[i])
		}
		mixed := grid.Mix(g, h)
		same(t, "Mix", all(mixed), want, n)
		if mixed.Size() != n {
			t.Errorf("Size of Mix: %d, want %d", mixed.Size(), n)
		}
		same(t, "the first table", all(g), before)
		same(t, "the second table", all(h), other)
	}
}

func TestMixIsNewMemory(t *testing.T) {
	a, b := table(t, 2, 1, 0, 0, 0), table(t, 2, 0, 0.5, 0, 0)
	for _, mixed := range []*grid.Grid{grid.Mix(a, b), grid.Mix(b, a), grid.Mix(a, a)} {
		for k := range 4 {
			mixed.Set(k/2, k%2, maybe)
		}
	}
	same(t, "the first table", all(a), []float64{1, 0, 0, 0})
	same(t, "the second table", all(b), []float64{0, 0.5, 0, 0})
	mixed := grid.Mix(a, b)
	a.Set(1, 1, yes)
	b.Set(1, 0, yes)
	same(t, "Mix", all(mixed), []float64{1, 0.5, 0, 0})
}

func TestMixOfUnlikeSizes(t *testing.T) {
	sizes := []int{0, 1, 2, 3, 39, 40}
	for _, n := range sizes {
		for _, m := range sizes {
			if mixed := grid.Mix(table(t, n), table(t, m)); (mixed == nil) != (n != m) {
				t.Errorf("Mix of %d and %d places: %v", n, m, mixed)
			}
		}
	}
}

func TestSame(t *testing.T) {
	r := lots(3)
	for _, n := range []int{0, 1, 2, 3, 40} {
		g := r.table(t, n, 3)
		h := table(t, n, all(g)...)
		if !grid.Same(g, h) || !grid.Same(g, g) {
			t.Errorf("Same of equal tables of %d places: false", n)
		}
		for k := range n * n {
			i, j := k/n, k%n
			before := g.At(i, j)
			for _, x := range []float64{no, maybe, yes} {
				h.Set(i, j, x)
				if got, want := grid.Same(g, h), x == before; got != want {
					t.Errorf("Same, of %d places, with %v for %v at %d, %d: %v", n, x, before, i, j, got)
				}
				if grid.Same(g, h) != grid.Same(h, g) {
					t.Errorf("Same of %d places hangs on the order", n)
				}
			}
			h.Set(i, j, before)
		}
		for _, m := range []int{0, 1, 2, 3, 39, 40} {
			if got := grid.Same(table(t, n), table(t, m)); got != (n == m) {
				t.Errorf("Same of %d and %d places: %v", n, m, got)
			}
		}
	}
}

func TestSameTakesMeanings(t *testing.T) {
	for _, a := range meanings() {
		for _, b := range meanings() {
			g, h := table(t, 2, 0, a[0]), table(t, 2, 0, b[0])
			if got, want := grid.Same(g, h), a[1] == b[1]; got != want {
				t.Errorf("Same of %v, %v: %v, want %v", a[0], b[0], got, want)
			}
		}
	}
}

// Tables that no call made have no places (R5).
func TestTablesThatNoCallMade(t *testing.T) {
	none := table(t, 0)
	one := table(t, 1, yes)
	made := func() []*grid.Grid { return []*grid.Grid{nil, {}, new(grid.Grid)} }
	for k, g := range made() {
		if g.Size() != 0 {
			t.Errorf("Size of %d: %d", k, g.Size())
		}
		for _, p := range append(outside(0), [2]int{0, 0}) {
			same(t, "At", []float64{g.At(p[0], p[1])}, []float64{no}, k, p)
			if g.Set(p[0], p[1], yes) {
				t.Errorf("Set of %d at %v: true", k, p)
			}
			if l := g.From(p[0]); len(l) != 0 {
				t.Errorf("From(%d) of %d: %v", p[0], k, l)
			}
			if l := g.Onto(p[0]); len(l) != 0 {
				t.Errorf("Onto(%d) of %d: %v", p[0], k, l)
			}
		}
		if p := g.Paths(); p == nil || p.Size() != 0 {
			t.Errorf("Paths of %d: %v", k, p)
		}
		for _, h := range append(made(), none) {
			if m := grid.Mix(g, h); m == nil || m.Size() != 0 {
				t.Errorf("Mix of %d: %v", k, m)
			}
			if !grid.Same(g, h) || !grid.Same(h, g) {
				t.Errorf("Same of %d: false", k)
			}
		}
		if m := grid.Mix(g, one); m != nil {
			t.Errorf("Mix of %d and a place: %v", k, m)
		}
		if m := grid.Mix(one, g); m != nil {
			t.Errorf("Mix of a place and %d: %v", k, m)
		}
		if grid.Same(g, one) || grid.Same(one, g) {
			t.Errorf("Same of %d and a place: true", k)
		}
	}
	same(t, "the other table", all(one), []float64{yes})
}

// P2.4

func TestPathsOfPaths(t *testing.T) {
	many(t, func(g *grid.Grid) {
		once := g.Paths()
		if !grid.Same(once.Paths(), once) {
			t.Errorf("Paths of Paths of %v: %v, want %v", all(g), all(once.Paths()), all(once))
		}
	})
}

func TestTruerStepsMakeNoPathLessTrue(t *testing.T) {
	r := lots(4)
	many(t, func(g *grid.Grid) {
		n := g.Size()
		if n == 0 {
			return
		}
		i, j := r.next(n), r.next(n)
		before, step := all(g.Paths()), g.At(i, j)
		g.Set(i, j, step+0.5)
		for k, truth := range all(g.Paths()) {
			if truth < before[k] {
				t.Errorf("a truer step from %d to %d: the path from %d to %d became %v from %v", i, j, k/n, k%n, truth, before[k])
			}
		}
		g.Set(i, j, step)
	})
}
