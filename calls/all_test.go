package calls_test

import (
	"strconv"
	"testing"

	"umbral/api"
)

// chosen are those of names whose bit in set is 1.
func chosen(names []string, set int) []string {
	var l []string
	for i, name := range names {
		if set>>i&1 == 1 {
			l = append(l, name)
		}
	}
	return l
}

// webs tells all programs of these procedures: each calls some of names, or none.
func webs(procs, names []string, see func(p api.Program)) {
	sets := 1 << len(names)
	count := 1
	for range procs {
		count *= sets
	}
	for web := range count {
		var p api.Program
		for i, name := range procs {
			p.Procs = append(p.Procs, api.Proc{Name: name, At: 7 - i, End: i, Body: body(chosen(names, web%sets)...)})
			web /= sets
		}
		see(p)
	}
}

func names(p api.Program) string {
	text := ""
	for _, q := range p.Procs {
		text += q.Name + ":"
		for _, s := range q.Body {
			text += " " + s.Name
		}
		text += "; "
	}
	return text
}

// All programs of up to four procedures of names of their own.
func TestAllWebs(t *testing.T) {
	all, rings := 0, 0
	for _, procs := range [][]string{{}, {"main"}, {"main", "a"}, {"a", "main"}, {"a", "b", "main"}, {"b", "main", "a"}, {"c", "a", "main", "b"}} {
		webs(procs, procs, func(p api.Program) {
			if holdAll(t, names(p), p) {
				rings++
			}
			all++
		})
	}
	if all != 1+2+16+16+512+512+65536 || all-rings != 1+1+3+3+25+25+543 {
		t.Errorf("%d programs, %d of them with a cycle", all, rings)
	}
}

// All programs of three procedures whose names may be the same, or empty, and that may call what there is not.
func TestAllNames(t *testing.T) {
	of := []string{"a", "main", ""}
	for kind := range 27 {
		procs := []string{of[kind%3], of[kind/3%3], of[kind/9]}
		webs(procs, of, func(p api.Program) { holdAll(t, names(p), p) })
	}
	webs([]string{"a", "main", "a"}, []string{"a", "none", "main", "b"}, func(p api.Program) { holdAll(t, names(p), p) })
}

// The order of the Calls, and how often they stand there, is nothing to Reach, Cycle and Order.
func TestAllOrdersOfCalls(t *testing.T) {
	of := []string{"d", "b", "a", "c", "e"}
	for i := range 5 * 5 * 5 * 5 * 5 {
		p := program("a", "b: a", "c", "d: b", "main", "e: none")
		for range 5 {
			p.Procs[4].Body = append(p.Procs[4].Body, call(of[i%5]))
			i /= 5
		}
		holdAll(t, names(p), p)
	}
}

// Rings of each length, wherever they begin and whichever way round their numbers go; nothing leads to them but their own.
func TestRings(t *testing.T) {
	for size := 1; size < 9; size++ {
		for step := 1; step <= size; step++ {
			for ahead := range 4 {
				p := program("main: low", "low", "side: main low", "other: side side")
				p.Procs = p.Procs[:ahead]
				for i := range size {
					q := api.Proc{Name: "r" + strconv.Itoa(i), At: 1000 + i, Body: body("low", "r"+strconv.Itoa((i+step)%size), "main")}
					p.Procs = append(p.Procs, q)
				}
				holdCycle(t, names(p), p, 1000, api.ErrCycle)
				holdOrder(t, names(p), p)
				holdCost(t, names(p), p, 0)
				holdAll(t, names(p), p)
			}
		}
	}
}

// The first one by number counts: not the one that is come to first, nor one that leads to a ring and is on none.
func TestFirstOfRings(t *testing.T) {
	for _, c := range []struct {
		first int
		texts []string
	}{
		{0, []string{"a: a", "b: b"}},
		{1, []string{"a: b", "b: b"}},
		{2, []string{"a: b", "b: c", "c: c"}},
		{2, []string{"a: b", "b: c", "c: d", "d: c"}},
		{1, []string{"a: d", "b: c", "c: b", "d: d"}},
		{1, []string{"a: d", "b: c", "c: b d", "d: d"}},
		{2, []string{"a: d", "b: d", "c: d", "d: c"}},
		{1, []string{"a: c", "b: c", "c: d", "d: b"}},
		{3, []string{"main", "a: b", "b: main", "c: d", "d: c"}},
		{3, []string{"a: d b", "b: main", "main", "c: d", "d: c main"}},
		{1, []string{"a: e", "b: f", "c", "d: e", "e: d", "f: g", "g: b"}},
		{2, []string{"a: e c", "b: d e", "c: d", "d: c", "e: f", "f: e"}},
		{1, []string{"between: two", "one: one between", "two: two"}},
		{0, []string{"one: one between", "between: two", "two: two"}},
		{2, []string{"between: two", "on: between", "one: three on", "three: one", "two: two"}},
		{0, []string{"a: b c", "b: d", "c: d", "d: a"}},
		{1, []string{"a: b", "b: c d", "c: b", "d: b"}},
		{4, []string{"a: b c", "b: d", "c: d", "d", "e: e"}},
	} {
		p := program(c.texts...)
		holdCycle(t, names(p), p, 100+c.first, api.ErrCycle)
		holdAll(t, names(p), p)
	}
}

// The least one is next each time, not the one that was just set free, nor the one that is called first.
func TestOrders(t *testing.T) {
	for _, c := range []struct {
		want  []int
		texts []string
	}{
		{[]int{0, 1, 2, 3}, []string{"a", "b", "c", "d"}},
		{[]int{3, 2, 1, 0}, []string{"a: b", "b: c", "c: d", "d"}},
		{[]int{0, 1, 2, 3}, []string{"a", "b: a", "c: b", "d: c"}},
		{[]int{1, 2, 3, 0}, []string{"a: d", "b", "c", "d"}},
		{[]int{1, 0, 2, 3}, []string{"a: b", "b", "c", "d"}},
		{[]int{1, 3, 0, 2}, []string{"a: b d", "b", "c: a", "d"}},
		{[]int{1, 3, 0, 2}, []string{"a: d b", "b", "c: a", "d: b"}},
		{[]int{2, 0, 3, 1}, []string{"a: c", "b: d", "c", "d"}},
		{[]int{2, 1, 0, 3}, []string{"a: b", "b: c", "c", "d"}},
		{[]int{3, 0, 1, 2}, []string{"a: d", "b: d", "c: d", "d"}},
		{[]int{4, 1, 0, 2, 3}, []string{"a: b", "b: e", "c: e", "d: c", "e"}},
		{[]int{3, 4, 2, 0, 1}, []string{"a: c", "b: a", "c: e d", "d", "e"}},
		{[]int{1, 2, 4, 5, 3, 0}, []string{"a: d", "b", "c", "d: f", "e", "f"}},
		{[]int{0, 2, 1, 4, 3}, []string{"a: none", "b: c c c", "c: none a", "d: e b", "e: a none a"}},
	} {
		p := program(c.texts...)
		holdOrder(t, names(p), p, c.want...)
		holdAll(t, names(p), p)
	}
}
