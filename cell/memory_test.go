package cell_test

import (
	"fmt"
	"slices"
	"testing"

	"umbral/api"
	"umbral/cell"
)

// spare is a list with more room than it needs, and something in it.
func spare[T any](more T, list ...T) []T {
	return append(slices.Clone(list), more, more, more)[:len(list)]
}

// R3: what is handed in is not changed, nor what lies behind its lists' ends, which is not looked at.
func TestNothingHandedInIsChanged(t *testing.T) {
	for n := range 12 {
		l := spare(api.Field{Owner: 9, Target: 9}, fields(n)...)
		cells := spare(alive(6, 1, 1), api.Cell{Type: 1, To: spare(2, 1, -1)}, api.Cell{Type: 2, Freed: true, To: spare(2, 1, 2, 3)}, api.Cell{Type: 3, To: spare(1)})
		h, m := cell.Load(l, cells), loadModel(n, cells)
		hold(t, "Load of lists with spare room", h, m)
		for _, x := range []step{{'p', 1, 0, 3}, {kind: 'a', cell: 7}, {'p', 3, 0, 4}, {'p', 1, n - 1, 2}, {kind: 'f', cell: 1}, {kind: 'a', cell: 8}, {'p', 4, 0, 1}} {
			x.do(t, "steps", h, m)
		}
		hold(t, "steps behind Load", h, m)
		more := cell.New(l)
		more.Add(1)
		more.Put(1, 0, 1)
		if !slices.Equal(l[:n], fields(n)) || !slices.Equal(l[n:n+3], slices.Repeat([]api.Field{{Owner: 9, Target: 9}}, 3)) {
			t.Errorf("the list of fields is changed: %v", l[:cap(l)])
		}
		room := []api.Cell{alive(1, 1, -1), freed(2, 1, 2, 3), alive(3), alive(6, 1, 1), alive(6, 1, 1), alive(6, 1, 1)}
		if !sameCells(cells[:6], room) {
			t.Errorf("the cells are changed: %v, want %v", cells[:6], room)
		}
		for i, behind := range []int{2, 2, 1} {
			to := cells[i].To
			if !slices.Equal(to[len(to):len(to)+3], slices.Repeat([]int{behind}, 3)) {
				t.Errorf("behind To of cell %d: %v", i+1, to[len(to):len(to)+3])
			}
		}
	}
}

// R3: a caller may change what it handed in, behind the call.
func TestNothingHandedInIsKept(t *testing.T) {
	for _, n := range []int{1, 3, 8, 9, 14} {
		l := fields(n)
		to := slices.Repeat([]int{2}, n)
		cells := []api.Cell{alive(1, to...), alive(2, slices.Clone(to)...), freed(3)}
		h, m := cell.Load(l, cells), loadModel(n, cells)
		fresh, none := cell.New(l), newModel(n)
		fresh.Add(4)
		none.add(4)
		clear(l)
		for i := range to {
			to[i] = 1
		}
		clear(cells[1].To)
		cells[0], cells[1], cells[2] = api.Cell{Type: 9, Freed: true}, api.Cell{Type: 9, Freed: true}, api.Cell{Type: 9}
		_ = append(cells[:0], api.Cell{})
		hold(t, "Load", h, m)
		hold(t, "New", fresh, none)
		h.Add(5)
		m.add(5)
		hold(t, "Load, Add", h, m)
	}
}

// scribble writes over all cells of a list, and over its spare room.
func scribble(cells []api.Cell) {
	for _, c := range cells {
		to := c.To[:cap(c.To)]
		for i := range to {
			to[i] = -7
		}
	}
	all := cells[:cap(cells)]
	for i := range all {
		all[i] = api.Cell{Type: -7, Freed: true, To: []int{-7}}
	}
}

// R3: what Cells answers is new memory, of which no two lists share any.
func TestCellsAreNew(t *testing.T) {
	for _, n := range []int{0, 1, 3, 8, 9, 14} {
		to := slices.Repeat([]int{1}, n)
		cells := []api.Cell{alive(1, to...), freed(2), alive(3, to...), alive(4)}
		h, m := cell.Load(fields(n), cells), loadModel(n, cells)
		for range 3 {
			scribble(h.Cells())
			holdCells(t, "behind scribbling", h, m)
			got := h.Cells()
			for i := range got {
				others := h.Cells()
				whole := got[i].To[:cap(got[i].To)]
				for k := range whole {
					whole[k] = 100 + i
				}
				_ = append(got[i].To, 200)
				for k := range got {
					if k <= i {
						others[k].To = slices.Repeat([]int{100 + k}, n)
					}
				}
				if !sameCells(got, others) {
					t.Fatalf("%d fields: places of cell %d are others' too: %v, want %v", n, i+1, got, others)
				}
			}
			holdCells(t, "behind writing to places", h, m)
			x := step{kind: 'a', cell: 6}
			x.do(t, "Add", h, m)
			step{'p', h.Len(), n - 1, 1}.do(t, "Put", h, m)
		}
	}
}

// R3: what was told stays as it was, whatever is done with the heap.
func TestWhatWasToldStays(t *testing.T) {
	for i := range 60 {
		s := lot(i)
		n := []int{1, 2, 8, 9, 15}[s.below(5)]
		h, m := cell.New(fields(n)), newModel(n)
		var told, wants [][]api.Cell
		for range 60 {
			s.step(len(m.types), n).do(t, "by lot", h, m)
			told, wants = append(told, h.Cells()), append(wants, m.cells())
		}
		for k := range told {
			if !sameCells(told[k], wants[k]) {
				t.Fatalf("heap %d: Cells behind %d steps: %v, want %v", i, k+1, told[k], wants[k])
			}
		}
	}
}

// No call changes another heap, one of the same lists and one loaded from the other's Cells among them.
func TestHeapsAreApart(t *testing.T) {
	for i := range 60 {
		s := lot(i)
		n := []int{1, 2, 8, 9, 15}[s.below(5)]
		l := fields(n)
		to := slices.Repeat([]int{1, 2, 3}, 5)
		cells := []api.Cell{alive(1, to...), freed(2, to...), alive(3, to[1:]...)}
		heaps := []*cell.Heap{cell.New(l), cell.New(l), cell.Load(l, cells), cell.Load(l, cells), cell.Load(l[:n-1], cells), nil}
		heaps[5] = cell.Load(l, heaps[2].Cells())
		models := []*model{newModel(n), newModel(n), loadModel(n, cells), loadModel(n, cells), loadModel(n-1, cells), loadModel(n, cells)}
		for k := range 200 {
			one := s.below(len(heaps))
			what := fmt.Sprintf("heap %d of %d fields", one, n)
			s.step(len(models[one].types), n).do(t, what, heaps[one], models[one])
			for other := range heaps {
				holdCells(t, fmt.Sprintf("%s, step %d: heap %d", what, k, other), heaps[other], models[other])
			}
		}
	}
}

// R4: the same calls on heaps that were made alike answer the same, whatever is asked between.
func TestAskingAgain(t *testing.T) {
	for i := range 40 {
		var first []string
		for again := range 3 {
			s := lot(i)
			h := cell.New(fields(1 + i%12))
			for k := range 80 {
				x := s.step(h.Len(), 1+i%12)
				var got int
				switch x.kind {
				case 'a':
					got = h.Add(x.cell)
				case 'p':
					got = h.Put(x.cell, x.field, x.to)
				case 'f':
					got = h.Free(x.cell)
				}
				for range again {
					h.Cells()
					h.Get(x.cell, x.field)
				}
				line := fmt.Sprint(x, got, h.Len(), h.Cells())
				if again == 0 {
					first = append(first, line)
				} else if first[k] != line {
					t.Fatalf("asked again: %s, want %s", line, first[k])
				}
			}
		}
	}
}

// R1: many cells, of which each one has many places, but leads to few.
func TestManyPlaces(t *testing.T) {
	const most = 1 << 20
	h := cell.New(make([]api.Field, most))
	for i := range 1 << 16 {
		want(t, "Add", h.Add(i), i+1)
		want(t, "Put", h.Put(i+1, most-1-i, i), 0)
		want(t, "Put", h.Put(i+1, most, i), 0)
	}
	for i := range 1 << 16 {
		wantGet(t, h, i+1, most-1-i, i, 0)
		wantGet(t, h, i+1, most-2-i, 0, 0)
		wantGet(t, h, i+1, most, 0, 0)
	}
	for i := range 1 << 16 {
		want(t, "Free", h.Free(i+1), 0)
		wantGet(t, h, i+1, most-1-i, 0, api.ByUse)
	}
	want(t, "Len", h.Len(), 1<<16)
}

// R1: the same of cells that are loaded.
func TestLoadOfManyPlaces(t *testing.T) {
	const most = 1 << 20
	cells := make([]api.Cell, most)
	cells[most-1].To = make([]int, most+5)
	cells[most-1].To[most-1], cells[most-1].To[most] = most, 1
	h := cell.Load(make([]api.Field, most), cells)
	want(t, "Len", h.Len(), most)
	wantGet(t, h, most, most-1, most, 0)
	wantGet(t, h, most, most, 0, 0)
	want(t, "Free", h.Free(most), 0)
	want(t, "Add", h.Add(0), most+1)
}

// R1: all places of a cell lead somewhere, and then nowhere, from the last one to the first one.
func TestAllPlaces(t *testing.T) {
	const most = 1 << 17
	h := cell.New(make([]api.Field, most))
	h.Add(0)
	for field := most - 1; field >= 0; field-- {
		want(t, "Put", h.Put(1, field, 1), 0)
	}
	wantCells(t, "all", h, alive(0, slices.Repeat([]int{1}, most)...))
	for field := most - 1; field >= 0; field-- {
		want(t, "Put", h.Put(1, field, 9), 0)
	}
	wantCells(t, "none", h, alive(0, make([]int, most)...))
}

// R1: very many cells.
func TestManyCells(t *testing.T) {
	const most = 1 << 19
	h := cell.New(fields(2))
	for i := range most {
		h.Add(i)
		h.Put(i+1, 1, i)
	}
	cells := h.Cells()
	for i, c := range cells {
		if c.Type != i || c.Freed || len(c.To) != 2 || c.To[0] != 0 || c.To[1] != i {
			t.Fatalf("cell %d: %v", i+1, c)
		}
	}
	if again := cell.Load(fields(2), cells); again.Len() != most || !sameCells(again.Cells(), cells) {
		t.Errorf("Load of %d cells", most)
	}
}
