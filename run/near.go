package run

import (
	"slices"

	"umbral/api"
	"umbral/state"
)

// near is the part of a state that an action touches: the variables that it names, their cells, and those to which these lead; all else is null there.
//
// State's Do makes all that it is handed anew. Handed the whole state, a run would take time for all of its cells at each step.
type near struct {
	whole   *api.State
	part    api.State
	numbers []int // by cell of the part: its number in the whole, 0 of 0
	held    int   // how many of its cells are of variables; those behind are there to be led to
}

// do does an action of g in s, a state of g, and tells what one sees of it.
func do(g api.Graph, s *api.State, a api.Action, in int) api.Event {
	n := nearOf(s, a)
	then, seen := state.Do(g, n.part, a, in)
	n.put(then, a)
	if seen.Kind == api.EvFree {
		seen.N = n.numbers[seen.N]
	}
	return seen
}

// nearOf tells the part of s that a touches.
func nearOf(s *api.State, a api.Action) *near {
	n := &near{whole: s, numbers: []int{0}}
	n.part = api.State{Point: s.Point, Vars: make([]int, len(s.Vars)), Ints: s.Ints}
	for _, x := range named(s, a) {
		n.part.Vars[x] = n.meet(s.Vars[x])
	}
	n.held = len(n.part.Cells)
	for i := range n.held {
		to := n.part.Cells[i].To
		for field, led := range s.Cells[n.numbers[i+1]-1].To {
			to[field] = n.meet(led)
		}
	}
	return n
}

// named tells the pointer variables that an action names. Where it names number variables, or none, these are touched in vain.
func named(s *api.State, a api.Action) []int {
	var names []int
	for _, x := range [...]int{a.X, a.Y} {
		if 0 <= x && x < len(s.Vars) {
			names = append(names, x)
		}
	}
	return names
}

// meet tells the number in the part of a cell of the whole, which is there then, and leads nowhere at first.
func (n *near) meet(number int) int {
	if known := slices.Index(n.numbers, number); known >= 0 {
		return known
	}
	c := n.whole.Cells[number-1]
	n.part.Cells = append(n.part.Cells, api.Cell{Type: c.Type, Freed: c.Freed, To: make([]int, len(c.To))})
	n.numbers = append(n.numbers, number)
	return len(n.part.Cells)
}

// put makes of the whole what an action has made of the part.
func (n *near) put(then api.State, a api.Action) {
	for i, c := range then.Cells[:n.held] {
		kept := &n.whole.Cells[n.numbers[i+1]-1]
		kept.Freed = c.Freed
		for field, led := range c.To {
			kept.To[field] = n.numbers[led]
		}
	}
	for _, c := range then.Cells[len(n.part.Cells):] {
		n.whole.Cells = append(n.whole.Cells, api.Cell{Type: c.Type, To: slices.Clone(c.To)})
		n.numbers = append(n.numbers, len(n.whole.Cells))
	}
	for _, x := range named(n.whole, a) {
		n.whole.Vars[x] = n.numbers[then.Vars[x]]
	}
	n.whole.Ints = then.Ints
}
