package calls_test

import (
	"slices"
	"strconv"
	"testing"

	"umbral/api"
	"umbral/calls"
)

// upTo are the numbers from first on, as far as last.
func upTo(first, last int) []int {
	var l []int
	for i := first; i <= last; i++ {
		l = append(l, i)
	}
	return l
}

// Chains of any length: each leads to all behind it, none to one ahead.
func TestChains(t *testing.T) {
	for size := 1; size < 40; size++ {
		p := chained(size, 1)
		for i, q := range p.Procs {
			holdReach(t, "a chain", p, q.Name, upTo(i+1, size-1)...)
		}
		holdAll(t, "a chain", p)
		slices.Reverse(p.Procs)
		for i, q := range p.Procs {
			holdReach(t, "a chain that is turned", p, q.Name, upTo(0, i-1)...)
		}
		holdOrder(t, "a chain that is turned", p, upTo(0, size-1)...)
		holdAll(t, "a chain that is turned", p)
	}
}

func TestLongChains(t *testing.T) {
	const size = 100000
	p := chained(size, 1)
	down := upTo(0, size-1)
	slices.Reverse(down)
	holdReach(t, "a long chain", p, "main", upTo(1, size-1)...)
	holdReach(t, "a long chain", p, "p99990", upTo(99991, size-1)...)
	holdCycle(t, "a long chain", p, 0, api.OK)
	holdOrder(t, "a long chain", p, down...)
	holdCost(t, "a long chain", p, size)
	slices.Reverse(p.Procs)
	holdReach(t, "a long chain that is turned", p, "main", upTo(0, size-2)...)
	holdCycle(t, "a long chain that is turned", p, 0, api.OK)
	holdOrder(t, "a long chain that is turned", p, upTo(0, size-1)...)
	holdCost(t, "a long chain that is turned", p, size)
}

func TestLongRings(t *testing.T) {
	const size = 100000
	p := chained(size, 1)
	p.Procs[size-1].Body = body("p50000")
	holdReach(t, "a long ring", p, "main", upTo(1, size-1)...)
	holdReach(t, "a long ring", p, "p70000", upTo(50000, size-1)...)
	holdCycle(t, "a long ring", p, 50001, api.ErrCycle)
	holdOrder(t, "a long ring", p)
	holdCost(t, "a long ring", p, 0)
	p.Procs[size-1].Body = body("main")
	holdReach(t, "a longer ring", p, "p7", upTo(0, size-1)...)
	holdCycle(t, "a longer ring", p, 1, api.ErrCycle)
	p.Procs[size-1].Body = body("p99999")
	holdCycle(t, "a ring at a long chain's end", p, size, api.ErrCycle)
	slices.Reverse(p.Procs)
	holdCycle(t, "a ring at a long chain's end, turned", p, size, api.ErrCycle)
	holdReach(t, "a ring at a long chain's end, turned", p, "p99999", 0)
}

// One that calls all others, and one that all others call.
func TestStars(t *testing.T) {
	const size = 20000
	p := api.Program{Procs: make([]api.Proc, size)}
	for i := range p.Procs {
		p.Procs[i] = api.Proc{Name: "p" + strconv.Itoa(i), At: i + 1, Body: body("main")}
	}
	p.Procs[size/2] = api.Proc{Name: "main", At: -5, Body: make([]api.Stmt, 3)}
	holdReach(t, "one that all call", p, "p7", size/2)
	holdReach(t, "one that all call", p, "main")
	holdOrder(t, "one that all call", p, slices.Concat(upTo(size/2, size/2), upTo(0, size/2-1), upTo(size/2+1, size-1))...)
	holdCost(t, "one that all call", p, 3)
	for i := range p.Procs {
		p.Procs[i].Body = nil
	}
	for i := range p.Procs {
		p.Procs[size/2].Body = append(p.Procs[size/2].Body, call("p"+strconv.Itoa(size-1-i)))
	}
	all := append(upTo(0, size/2-1), upTo(size/2+1, size-1)...)
	holdReach(t, "one that calls all", p, "main", all...)
	holdOrder(t, "one that calls all", p, append(all, size/2)...)
	holdCost(t, "one that calls all", p, size)
	p.Procs[size-1].Body = body("main")
	holdReach(t, "one that is called back", p, "main", upTo(0, size-1)...)
	holdCycle(t, "one that is called back", p, -5, api.ErrCycle)
}

// Statements as deep within each other as the document lets them be.
func TestDeepest(t *testing.T) {
	const deep = 1 << 16
	l := body("a", "b")
	for i := range deep {
		s := api.Stmt{Kind: i % 7, Name: "a", Then: l}
		if i%2 == 1 {
			s.Then, s.Else = nil, l
		}
		l = []api.Stmt{s}
	}
	p := program("a", "main", "b: a")
	p.Procs[1].Body = l
	holdReach(t, "the deepest", p, "main", 0, 2)
	holdCycle(t, "the deepest", p, 0, api.OK)
	holdOrder(t, "the deepest", p, 0, 2, 1)
	holdCost(t, "the deepest", p, deep+2+1)
	p.Procs[2].Body = body("main")
	holdCycle(t, "the deepest with a ring", p, 101, api.ErrCycle)
}

// There are more ways through diamonds than can be gone one by one.
func TestDiamonds(t *testing.T) {
	const size = 3000
	var p api.Program
	for i := range size {
		next, other := "l"+strconv.Itoa(i+1), "r"+strconv.Itoa(i+1)
		p.Procs = append(p.Procs, api.Proc{Name: "l" + strconv.Itoa(i), At: i, Body: body(next, other)}, api.Proc{Name: "r" + strconv.Itoa(i), At: -i, Body: body(other, next)})
	}
	p.Procs[0].Name = "main"
	var reach, order []int
	for i := range 2 * size {
		order = append(order, 2*size-1-i/2*2-1+i%2)
		if i > 1 {
			reach = append(reach, i)
		}
	}
	holdReach(t, "diamonds", p, "main", reach...)
	holdReach(t, "diamonds", p, "r0", reach...)
	holdCycle(t, "diamonds", p, 0, api.OK)
	holdOrder(t, "diamonds", p, order...)
	holdCost(t, "diamonds", p, most)
	p.Procs[2*size-1].Body = body("r2000")
	holdCycle(t, "diamonds with a ring", p, -2000, api.ErrCycle)
	p.Procs[2*size-1].Body = body("r2000", "main")
	holdCycle(t, "diamonds with a great ring", p, 0, api.ErrCycle)
	if reach := calls.Reach(p, "l2999"); len(reach) != 0 {
		t.Errorf("the end of diamonds reaches %v", reach)
	}
}
