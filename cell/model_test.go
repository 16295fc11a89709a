package cell_test

import (
	"fmt"
	"math"
	"slices"
	"testing"

	"umbral/api"
	"umbral/cell"
)

// model is a heap as the chapter has it: what leads somewhere stands in one map, by cell and field.
type model struct {
	fields int
	types  []int
	freed  map[int]bool
	leads  map[[2]int]int
}

func newModel(fields int) *model {
	return &model{fields: fields, freed: map[int]bool{}, leads: map[[2]int]int{}}
}

func loadModel(fields int, cells []api.Cell) *model {
	m := newModel(fields)
	for i, c := range cells {
		m.types = append(m.types, c.Type)
		m.freed[i+1] = c.Freed
		for field, to := range c.To {
			if !c.Freed && field < fields && to > 0 && to <= len(cells) {
				m.leads[[2]int{i + 1, field}] = to
			}
		}
	}
	return m
}

func (m *model) null(cell int) bool { return cell < 1 || cell > len(m.types) }

func (m *model) add(t int) int {
	m.types = append(m.types, t)
	return len(m.types)
}

func (m *model) wrong(cell int) int {
	switch {
	case m.null(cell):
		return 1
	case m.freed[cell]:
		return 2
	}
	return 0
}

func (m *model) get(cell, field int) (int, int) {
	if wrong := m.wrong(cell); wrong != 0 {
		return 0, wrong
	}
	return m.leads[[2]int{cell, field}], 0
}

func (m *model) put(cell, field, to int) int {
	if wrong := m.wrong(cell); wrong != 0 {
		return wrong
	}
	if field < 0 || field >= m.fields {
		return 0
	}
	if m.null(to) {
		to = 0
	}
	m.leads[[2]int{cell, field}] = to
	return 0
}

func (m *model) free(cell int) int {
	switch m.wrong(cell) {
	case 1:
		return 1
	case 2:
		return 3
	}
	m.freed[cell] = true
	for field := range m.fields {
		delete(m.leads, [2]int{cell, field})
	}
	return 0
}

func (m *model) cells() []api.Cell {
	var cells []api.Cell
	for i, t := range m.types {
		c := api.Cell{Type: t, Freed: m.freed[i+1]}
		for field := range m.fields {
			c.To = append(c.To, m.leads[[2]int{i + 1, field}])
		}
		cells = append(cells, c)
	}
	return cells
}

func sameCells(a, b []api.Cell) bool {
	return slices.EqualFunc(a, b, func(a, b api.Cell) bool {
		return a.Type == b.Type && a.Freed == b.Freed && slices.Equal(a.To, b.To)
	})
}

// ends are numbers that are none of any cell, and of no field.
var ends = []int{math.MinInt, math.MinInt + 1, math.MinInt32, -2, -1, math.MaxInt32, math.MaxInt32 + 1, math.MaxInt - 1, math.MaxInt}

// about are the numbers from 0 to n, the one behind that, and all ends.
func about(n int) []int {
	numbers := slices.Clone(ends)
	for i := range n + 2 {
		numbers = append(numbers, i)
	}
	return numbers
}

// holdCells tells whether a heap has a model's cells.
func holdCells(t *testing.T, what string, h *cell.Heap, m *model) {
	t.Helper()
	got, want := h.Cells(), m.cells()
	if h.Len() != len(want) || !sameCells(got, want) {
		t.Fatalf("%s: %d cells, %v, want %v", what, h.Len(), got, want)
	}
	for _, c := range got {
		if len(c.To) != m.fields {
			t.Fatalf("%s: To has %d places, want %d", what, len(c.To), m.fields)
		}
	}
}

// hold holds all that a heap tells against a model.
func hold(t *testing.T, what string, h *cell.Heap, m *model) {
	t.Helper()
	holdCells(t, what, h, m)
	for _, c := range about(len(m.types)) {
		for _, field := range about(m.fields) {
			to, wrong := h.Get(c, field)
			wantTo, wantWrong := m.get(c, field)
			if to != wantTo || wrong != wantWrong {
				t.Fatalf("%s: Get(%d, %d): %d, %d, want %d, %d", what, c, field, to, wrong, wantTo, wantWrong)
			}
		}
	}
	holdCells(t, what+": behind all Gets", h, m)
}

// step is a call that may change a heap.
type step struct {
	kind  byte // a: Add, p: Put, f: Free
	cell  int  // of Add: the struct
	field int
	to    int
}

// do makes a heap and its model do a step, and tells whether both answered the same.
func (x step) do(t *testing.T, what string, h *cell.Heap, m *model) {
	t.Helper()
	var got, want int
	switch x.kind {
	case 'a':
		got, want = h.Add(x.cell), m.add(x.cell)
	case 'p':
		got, want = h.Put(x.cell, x.field, x.to), m.put(x.cell, x.field, x.to)
	case 'f':
		got, want = h.Free(x.cell), m.free(x.cell)
	}
	if got != want {
		t.Fatalf("%s: %v: %d, want %d", what, x, got, want)
	}
}

func (x step) String() string {
	switch x.kind {
	case 'a':
		return fmt.Sprintf("Add(%d)", x.cell)
	case 'p':
		return fmt.Sprintf("Put(%d, %d, %d)", x.cell, x.field, x.to)
	}
	return fmt.Sprintf("Free(%d)", x.cell)
}

// fields is a list of n fields, of any structs.
func fields(n int) []api.Field {
	l := make([]api.Field, n)
	for i := range l {
		l[i] = api.Field{Owner: i%3 - 1, Target: math.MaxInt - i}
	}
	return l
}

// P14.1, P14.2, P14.3: all rows of a few calls on heaps of one field.
func TestAllRows(t *testing.T) {
	steps := []step{{kind: 'a', cell: 4}, {kind: 'f', cell: 1}, {kind: 'f', cell: 2}, {'p', 1, 0, 0}, {'p', 1, 0, 1}, {'p', 1, 0, 2}, {'p', 2, 0, 1}, {'p', 2, 0, 3}}
	var row []step
	var rows func(more int)
	rows = func(more int) {
		h, m := cell.New(fields(1)), newModel(1)
		what := fmt.Sprint(row)
		for _, x := range row {
			x.do(t, what, h, m)
		}
		holdCells(t, what, h, m)
		for c := range 4 {
			to, wrong := h.Get(c, 0)
			if wantTo, wantWrong := m.get(c, 0); to != wantTo || wrong != wantWrong {
				t.Fatalf("%s: Get(%d, 0): %d, %d, want %d, %d", what, c, to, wrong, wantTo, wantWrong)
			}
		}
		if more == 0 {
			return
		}
		for _, x := range steps {
			row = append(row, x)
			rows(more - 1)
			row = row[:len(row)-1]
		}
	}
	rows(5)
}

// P14.2: what each call makes of each small heap, at all cells and fields, and at the ends of numbers.
func TestAllCallsOfSmallHeaps(t *testing.T) {
	for _, n := range []int{0, 1, 2, 7, 8, 9, 10} {
		for _, row := range [][]step{
			nil,
			{{kind: 'a', cell: 5}},
			{{kind: 'a', cell: 5}, {'p', 1, 0, 1}, {'p', 1, n - 1, 1}},
			{{kind: 'a', cell: 5}, {kind: 'f', cell: 1}},
			{{kind: 'a', cell: 5}, {kind: 'a', cell: -1}, {'p', 1, 0, 2}, {'p', 2, n - 1, 1}, {'p', 2, 0, 2}},
			{{kind: 'a', cell: 5}, {kind: 'a', cell: 6}, {'p', 1, 0, 2}, {'p', 2, n - 1, 1}, {kind: 'f', cell: 2}},
			{{kind: 'a', cell: 5}, {kind: 'a', cell: 6}, {kind: 'a', cell: 7}, {'p', 1, 0, 2}, {'p', 2, n - 1, 1}, {kind: 'f', cell: 1}, {'p', 3, 0, 1}, {'p', 3, n - 1, 3}},
		} {
			cells := 0
			for _, x := range row {
				if x.kind == 'a' {
					cells++
				}
			}
			try := func(last step) {
				h, m := cell.New(fields(n)), newModel(n)
				what := fmt.Sprintf("%d fields: %v: %v", n, row, last)
				for _, x := range row {
					x.do(t, what, h, m)
				}
				last.do(t, what, h, m)
				holdCells(t, what, h, m)
			}
			for _, c := range about(cells) {
				try(step{kind: 'a', cell: c})
				try(step{kind: 'f', cell: c})
				for _, field := range about(n) {
					for _, to := range about(cells) {
						try(step{'p', c, field, to})
					}
				}
			}
		}
	}
}

// P14.1: what Load makes of all lists of up to two cells with up to three numbers each.
func TestAllLoads(t *testing.T) {
	var lists [][]int
	var grow func(list []int)
	grow = func(list []int) {
		lists = append(lists, list)
		if len(list) == 3 {
			return
		}
		for _, to := range []int{-1, 0, 1, 2, 3} {
			grow(append(slices.Clone(list), to))
		}
	}
	grow(nil)
	for n := range 4 {
		for i, first := range lists {
			for k := range 2 {
				freed := k == 1
				one := []api.Cell{{Type: i, Freed: freed, To: first}}
				hold(t, fmt.Sprintf("%d fields: %v", n, one), cell.Load(fields(n), one), loadModel(n, one))
				for j, second := range lists {
					two := []api.Cell{{Type: i, Freed: freed, To: first}, {Type: -j, Freed: j%4 == 3, To: second}}
					holdCells(t, fmt.Sprintf("%d fields: %v", n, two), cell.Load(fields(n), two), loadModel(n, two))
				}
			}
		}
	}
}

// lot draws numbers, always the same ones.
type lot uint64

func (s *lot) below(n int) int {
	*s = *s*6364136223846793005 + 1442695040888963407
	return int(uint64(*s>>33) % uint64(n))
}

// number draws one of up to n, seldom one beyond.
func (s *lot) number(n int) int {
	if s.below(12) == 0 {
		return ends[s.below(len(ends))]
	}
	return s.below(n + 2)
}

// step draws a call of a heap of so many cells and fields.
func (s *lot) step(cells, fields int) step {
	switch k := s.below(20); {
	case k < 4:
		return step{kind: 'a', cell: s.number(9) - 1}
	case k < 6:
		return step{kind: 'f', cell: s.number(cells)}
	}
	return step{'p', s.number(cells), s.number(fields) - s.below(2), s.number(cells)}
}

// P14.3: long rows of calls, on heaps that are made anew from their Cells now and then.
func TestLongRowsByLot(t *testing.T) {
	for i := range 400 {
		s := lot(i)
		n := []int{0, 1, 2, 3, 7, 8, 9, 12, 30}[s.below(9)]
		h, m := cell.New(fields(n)), newModel(n)
		var row []step
		for k := range 150 {
			x := s.step(len(m.types), n)
			row = append(row, x)
			what := fmt.Sprintf("%d fields: %v", n, row)
			x.do(t, what, h, m)
			holdCells(t, what, h, m)
			if s.below(30) == 0 {
				h = cell.Load(fields(n), h.Cells())
			}
			if k%50 == 49 {
				hold(t, what, h, m)
			}
		}
	}
}

// P14.1: cells by lot, and what is done with heaps that were loaded.
func TestLoadsByLot(t *testing.T) {
	for i := range 2000 {
		s := lot(i)
		n := []int{0, 1, 2, 3, 7, 8, 9, 12, 30}[s.below(9)]
		cells := make([]api.Cell, s.below(7))
		for k := range cells {
			cells[k] = api.Cell{Type: s.number(9), Freed: s.below(4) == 0}
			for range s.below(n + 4) {
				cells[k].To = append(cells[k].To, s.number(len(cells)))
			}
		}
		h, m := cell.Load(fields(n), cells), loadModel(n, cells)
		what := fmt.Sprintf("%d fields: %v", n, cells)
		hold(t, what, h, m)
		for range 30 {
			s.step(len(m.types), n).do(t, what, h, m)
			holdCells(t, what, h, m)
		}
		hold(t, what, h, m)
	}
}
