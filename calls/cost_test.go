package calls_test

import (
	"math"
	"slices"
	"strconv"
	"testing"

	"umbral/api"
)

const most = 1 << 30

// costing makes procedures of which the last one, of this name, costs cost: each but the first calls the one ahead of it twice.
func costing(cost uint64, name string) []api.Proc {
	if cost < 5 {
		return []api.Proc{{Name: name, Body: make([]api.Stmt, cost)}}
	}
	half := name + "'"
	procs := costing((cost-2)/2, half)
	return append(procs, api.Proc{Name: name, Body: append(body(half, half), make([]api.Stmt, cost%2)...)})
}

func TestCostsByHand(t *testing.T) {
	for _, c := range []struct {
		want int
		p    api.Program
	}{
		{1, program("main: none")},
		{2, program("a: none", "main: a")},
		{1, program("a", "main: a")},
		{4, program("a", "main: a a a a")},
		{8, program("a: none", "main: a a a a")},
		{3, program("main: a", "a: b", "b: none")},
		{14, program("c: none none", "b: c c", "main: b b")},
		{9, program("a: b c", "main: a d", "b: d", "c: d", "d: none")},
		{0, program("main", "a: main main", "b: a")},
		{3, program("main: x", "x: a", "a: none")},
		{0, program("a: b b", "b: none")},
		{0, program()},
		{0, program("Main: a", "a")},
		{1, program("main: b", "a: b none", "b")},
		{1, program("main: none", "main: none none none")},
		{3, program("x: main", "main: y", "main: x x x", "y: none none", "y: main")},
	} {
		holdCost(t, names(c.p), c.p, c.want)
		holdAll(t, names(c.p), c.p)
	}
}

// A Cycle is enough, be it that main does not come to it.
func TestCostBesideACycle(t *testing.T) {
	for _, p := range []api.Program{
		program("main: main"),
		program("main: a", "a: a"),
		program("main: a", "a: main"),
		program("main: b", "a: a", "b"),
		program("a: b", "b: a", "main"),
		program("main: none none", "x: y", "y: z", "z: x main"),
		program("main: none", "main", "a: a"),
		program("a: a"),
	} {
		holdCost(t, names(p), p, 0)
		holdOrder(t, names(p), p)
		holdAll(t, names(p), p)
	}
}

// All statements count, whatever stands in them and whatever they stand in; a Call counts by itself too.
func TestCostOfStatementsWithin(t *testing.T) {
	p := read(t, `int i;
void a() { ; { ; { } } if (?) { } else { ; ; } while (?) { ; } }
void main() { if (?) { a(); } else { while (?) { a(); ; } { a(); } } none(); }`)
	holdCost(t, "statements within", p, 8+9*3)
	holdAll(t, "statements within", p)
}

// Costs are told as they are as far as 2^30, and as 2^30 beyond that.
func TestCostAtTheCap(t *testing.T) {
	costs := []uint64{0, 1, 2, 3, 4, 5, 6, 7, 100, 65535, 65536, most / 2, most - 3, most - 2, most - 1, most, most + 1, most + 2, most + 3,
		most*3/2 - 1, most * 2, most*2 - 1, most*2 + 1, most * 3, most * 4, most*4 - 1, most*4 + 1, most*4 + 7, most * 7, 1 << 40, 1<<62 - 1, 1 << 62, 1<<62 + 1,
		1<<63 - 1, 1 << 63, 1<<63 + 1, 1<<64 - 1, 1<<64 - 2}
	for _, cost := range costs {
		what := "cost " + strconv.FormatUint(cost, 10)
		want := int(min(cost, most))
		holdCost(t, what, api.Program{Procs: costing(cost, "main")}, want)
		turned := costing(cost, "main")
		slices.Reverse(turned)
		holdCost(t, what+", turned", api.Program{Procs: turned}, want)
		called := append(costing(cost, "a"), program("main: a").Procs...)
		holdCost(t, what+", called", api.Program{Procs: called}, int(min(cost, most-1))+1)
		beside := append(costing(cost, "a"), program("main: b", "b: none").Procs...)
		holdCost(t, what+", not called", api.Program{Procs: beside}, 2)
		holdAll(t, what, api.Program{Procs: costing(cost, "main")})
		holdAll(t, what+", called", api.Program{Procs: called})
	}
}

// Sums of two that are just within the cap, at it or beyond it.
func TestCostOfSumsAtTheCap(t *testing.T) {
	for a := -3; a < 3; a++ {
		for b := -3; b < 3; b++ {
			procs := slices.Concat(costing(uint64(most/2+a), "a"), costing(uint64(most/2+b), "b"), program("main: a b").Procs)
			holdCost(t, "a sum", api.Program{Procs: procs}, min(most+a+b+2, most))
			procs = slices.Concat(costing(uint64(most+a), "a"), costing(uint64(most+b), "b"), program("main: a b a b b a").Procs)
			holdCost(t, "a sum that is great", api.Program{Procs: procs}, most)
			procs = slices.Concat(costing(uint64(most+a), "a"), costing(uint64(3+b), "b"), program("main: a b").Procs)
			holdCost(t, "a sum with a great one", api.Program{Procs: procs}, min(most+a+3+b+2, most))
			procs = slices.Concat(program("main: b a").Procs, costing(uint64(most+a), "a"), costing(uint64(3+b), "b"))
			holdCost(t, "a sum with a great one behind", api.Program{Procs: procs}, min(most+a+3+b+2, most))
		}
	}
}

// chained makes procedures that call the next one each, so many times; the last one has one statement.
func chained(size, times int) api.Program {
	p := api.Program{Procs: make([]api.Proc, size)}
	for i := range size {
		p.Procs[i] = api.Proc{Name: "p" + strconv.Itoa(i), At: i + 1}
		for range times {
			p.Procs[i].Body = append(p.Procs[i].Body, call("p"+strconv.Itoa(i+1)))
		}
	}
	p.Procs[0].Name = "main"
	p.Procs[size-1].Body = make([]api.Stmt, 1)
	return p
}

// Chains that double, or more than double, so often that any int would wrap: at once, and at the cap.
func TestCostOfDoubledChains(t *testing.T) {
	for size := 1; size < 140; size++ {
		for times := 1; times < 6; times++ {
			want, step := 1, 0
			for step = 1; step < size && want < most; step++ {
				want = min(times*(want+1), most)
			}
			p := chained(size, times)
			what := "a chain of " + strconv.Itoa(size) + ", by " + strconv.Itoa(times)
			holdCost(t, what, p, want)
			slices.Reverse(p.Procs)
			holdCost(t, what+", turned", p, want)
		}
	}
	for _, times := range []int{2, 3, 8} {
		p := chained(20000, times)
		holdCost(t, "a long chain", p, most)
		p.Procs[19999].Body = nil
		holdCost(t, "a long chain that ends in nothing", p, most)
		p.Procs[19999].Body = body("p19999")
		holdCost(t, "a long chain that ends in a ring", p, 0)
	}
}

// One procedure that is called very often: many small ones, and many that are at the cap.
func TestCostOfManyCalls(t *testing.T) {
	p := program("main", "a: none none", "b: a")
	p.Procs[0].Body = slices.Repeat(body("a"), 30000)
	holdCost(t, "many calls", p, 90000)
	p.Procs[0].Body = slices.Repeat(body("a", "b"), 30000)
	holdCost(t, "many calls", p, 30000*(3+4))
	p.Procs = append(program("main").Procs, costing(math.MaxUint64, "a")...)
	p.Procs[0].Body = slices.Repeat(body("a"), 30000)
	holdCost(t, "many great calls", p, most)
	p.Procs[0].Body = []api.Stmt{{Kind: api.If, Then: slices.Repeat(body("a"), 7), Else: slices.Repeat(body("none", "a"), 7)}}
	holdCost(t, "many great calls within", p, most)
}
