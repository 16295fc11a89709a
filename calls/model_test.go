package calls_test

import (
	"math/big"
	"slices"
	"testing"

	"umbral/api"
	"umbral/calls"
)

// called are the names of all Calls in l and in all lists within, as often as they stand there, and how many statements there are.
func called(l []api.Stmt) ([]string, int) {
	var names []string
	open, count := [][]api.Stmt{l}, 0
	for len(open) > 0 {
		last := open[len(open)-1]
		open = open[:len(open)-1]
		for _, s := range last {
			count++
			if s.Kind == 3 {
				names = append(names, s.Name)
			}
			open = append(open, s.Then, s.Else)
		}
	}
	return names, count
}

// model is a program by numbers: whom each procedure calls, as often as it does, and how many statements it has.
type model struct {
	names []string
	to    [][]int
	count []int
	costs map[int]*big.Int
}

func modelOf(p api.Program) *model {
	m := &model{costs: map[int]*big.Int{}}
	for _, q := range p.Procs {
		m.names = append(m.names, q.Name)
	}
	for _, q := range p.Procs {
		names, count := called(q.Body)
		var to []int
		for _, name := range names {
			if i := slices.Index(m.names, name); i >= 0 {
				to = append(to, i)
			}
		}
		m.to, m.count = append(m.to, to), append(m.count, count)
	}
	return m
}

// reach goes over all procedures until none is new.
func (m *model) reach(start int) []int {
	among := make([]bool, len(m.to))
	for _, to := range m.to[start] {
		among[to] = true
	}
	for more := true; more; {
		more = false
		for from, list := range m.to {
			for _, to := range list {
				if among[from] && !among[to] {
					among[to], more = true, true
				}
			}
		}
	}
	var all []int
	for i, is := range among {
		if is {
			all = append(all, i)
		}
	}
	return all
}

func (m *model) reachOf(name string) []int {
	if i := slices.Index(m.names, name); i >= 0 {
		return m.reach(i)
	}
	return nil
}

// first is the first procedure that comes to itself, or -1.
func (m *model) first() int {
	for i := range m.to {
		if slices.Contains(m.reach(i), i) {
			return i
		}
	}
	return -1
}

func (m *model) order() []int {
	if m.first() >= 0 {
		return nil
	}
	var order []int
	isReady := func(i int) bool {
		for _, to := range m.to[i] {
			if !slices.Contains(order, to) {
				return false
			}
		}
		return !slices.Contains(order, i)
	}
	for i := 0; i < len(m.to); i++ {
		if isReady(i) {
			order = append(order, i)
			i = -1
		}
	}
	return order
}

// costOf has no cap. There must be no cycle.
func (m *model) costOf(i int) *big.Int {
	if cost, found := m.costs[i]; found {
		return cost
	}
	cost := big.NewInt(int64(m.count[i]))
	for _, to := range m.to[i] {
		cost.Add(cost, m.costOf(to))
	}
	m.costs[i] = cost
	return cost
}

func (m *model) cost() int {
	i := slices.Index(m.names, "main")
	if i < 0 || m.first() >= 0 {
		return 0
	}
	if most := big.NewInt(1 << 30); m.costOf(i).Cmp(most) > 0 {
		return 1 << 30
	}
	return int(m.costOf(i).Int64())
}

func holdReach(t *testing.T, what string, p api.Program, name string, want ...int) {
	t.Helper()
	if got := calls.Reach(p, name); !slices.Equal(got, want) {
		t.Errorf("Reach of %q, %s: %v, want %v", name, what, got, want)
	}
}

func holdCycle(t *testing.T, what string, p api.Program, at int, err api.Errno) {
	t.Helper()
	if gotAt, got := calls.Cycle(p); gotAt != at || got != err {
		t.Errorf("Cycle, %s: %d, %v, want %d, %v", what, gotAt, got, at, err)
	}
}

func holdOrder(t *testing.T, what string, p api.Program, want ...int) {
	t.Helper()
	if got := calls.Order(p); !slices.Equal(got, want) {
		t.Errorf("Order, %s: %v, want %v", what, got, want)
	}
}

func holdCost(t *testing.T, what string, p api.Program, want int) {
	t.Helper()
	if got := calls.Cost(p); got != want {
		t.Errorf("Cost, %s: %d, want %d", what, got, want)
	}
}

// holdAll holds all calls against the model, and tells whether there is a cycle.
func holdAll(t *testing.T, what string, p api.Program) bool {
	t.Helper()
	m := modelOf(p)
	for _, name := range append([]string{"main", "", "none"}, m.names...) {
		holdReach(t, what, p, name, m.reachOf(name)...)
	}
	first := m.first()
	if first >= 0 {
		holdCycle(t, what, p, p.Procs[first].At, api.ErrCycle)
	} else {
		holdCycle(t, what, p, 0, api.OK)
	}
	holdOrder(t, what, p, m.order()...)
	holdCost(t, what, p, m.cost())
	holdBehind(t, what, p)
	return first >= 0
}

// holdBehind holds P10.3: each procedure is told once, behind all that it calls.
func holdBehind(t *testing.T, what string, p api.Program) {
	t.Helper()
	order := calls.Order(p)
	if len(order) == 0 {
		return
	}
	places := make([]int, len(p.Procs))
	for place, i := range order {
		places[i] = place + 1
	}
	if len(order) != len(p.Procs) || slices.Contains(places, 0) {
		t.Errorf("Order, %s: %v are not all procedures, each once", what, order)
	}
	names := map[string]int{}
	for i := range p.Procs {
		if _, found := names[p.Procs[i].Name]; !found {
			names[p.Procs[i].Name] = i
		}
	}
	for i := range p.Procs {
		list, _ := called(p.Procs[i].Body)
		for _, name := range list {
			if to, found := names[name]; found && places[to] >= places[i] {
				t.Errorf("Order, %s: %d calls %d, which stands behind it", what, i, to)
			}
		}
	}
}
