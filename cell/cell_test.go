package cell_test

import (
	"fmt"
	"math"
	"reflect"
	"slices"
	"testing"

	"umbral/api"
	"umbral/cell"
)

// want holds what a call answered.
func want(t *testing.T, what string, got, wanted int) {
	t.Helper()
	if got != wanted {
		t.Errorf("%s: %d, want %d", what, got, wanted)
	}
}

// wantGet holds what Get answers.
func wantGet(t *testing.T, h *cell.Heap, c, field, to, wrong int) {
	t.Helper()
	if gotTo, gotWrong := h.Get(c, field); gotTo != to || gotWrong != wrong {
		t.Errorf("Get(%d, %d): %d, %d, want %d, %d", c, field, gotTo, gotWrong, to, wrong)
	}
}

// wantCells holds all cells of a heap.
func wantCells(t *testing.T, what string, h *cell.Heap, cells ...api.Cell) {
	t.Helper()
	if got := h.Cells(); !sameCells(got, cells) || h.Len() != len(cells) {
		t.Errorf("%s: %d cells, %v, want %v", what, h.Len(), got, cells)
	}
}

// alive and freed are cells.
func alive(t int, to ...int) api.Cell { return api.Cell{Type: t, To: to} }
func freed(t int, to ...int) api.Cell { return api.Cell{Type: t, Freed: true, To: to} }

func TestExamples(t *testing.T) {
	h := cell.New(fields(1))
	want(t, "Add", h.Add(0), 1)
	want(t, "Add", h.Add(0), 2)
	want(t, "Put(1, 0, 2)", h.Put(1, 0, 2), 0)
	wantGet(t, h, 1, 0, 2, 0)
	want(t, "Free(2)", h.Free(2), 0)
	want(t, "Free(2)", h.Free(2), api.ByTwice)
	wantCells(t, "the example", h, alive(0, 2), freed(0, 0))
}

func TestKindsOfErrors(t *testing.T) {
	h := cell.Load(fields(1), []api.Cell{freed(0)})
	_, null := h.Get(0, 0)
	_, use := h.Get(1, 0)
	got := []int{null, use, h.Put(0, 0, 0), h.Put(1, 0, 0), h.Free(0), h.Free(1)}
	if !slices.Equal(got, []int{1, 2, 1, 2, 1, 3}) {
		t.Errorf("the errors of null and freed cells: %v", got)
	}
}

// P14.1: New.
func TestNew(t *testing.T) {
	for _, n := range []int{0, 1, 2, 7, 8, 9, 16, 100, 1000} {
		h := cell.New(fields(n))
		if h == nil || h.Len() != 0 || len(h.Cells()) != 0 {
			t.Fatalf("New of %d fields: %v", n, h)
		}
		hold(t, fmt.Sprint("New of fields: ", n), h, newModel(min(n, 20)))
		want(t, "Add", h.Add(3), 1)
		wantCells(t, "one cell", h, alive(3, make([]int, n)...))
	}
}

// P14.1: nil and empty lists are the same.
func TestEmptyLists(t *testing.T) {
	for _, l := range [][]api.Field{nil, {}, fields(5)[:0]} {
		for _, cells := range [][]api.Cell{nil, {}, {alive(1, 1)}, {alive(1)}, {freed(1, 1)}, {{Type: 1, To: []int{}}}} {
			h := cell.Load(l, cells)
			m := loadModel(0, cells)
			hold(t, fmt.Sprintf("Load(%v, %v)", l, cells), h, m)
			want(t, "Put(1, 0, 1)", h.Put(1, 0, 1), m.wrong(1))
			want(t, "Add", h.Add(7), len(cells)+1)
			want(t, "Put of the new one", h.Put(len(cells)+1, 0, 1), 0)
			wantGet(t, h, len(cells)+1, 0, 0, 0)
		}
		h := cell.New(l)
		hold(t, "New", h, newModel(0))
		want(t, "Add", h.Add(7), 1)
		wantCells(t, "New, Add", h, alive(7))
	}
	for _, to := range [][]int{nil, {}} {
		wantCells(t, "Load", cell.Load(fields(2), []api.Cell{{Type: 4, To: to}}), alive(4, 0, 0))
	}
}

// P14.1: which numbers of To lead to a cell.
func TestLoadKeepsCells(t *testing.T) {
	for _, c := range []struct {
		to, kept int
	}{
		{1, 1}, {2, 2}, {3, 3}, {0, 0}, {4, 0}, {5, 0}, {-1, 0}, {-3, 0}, {math.MaxInt, 0}, {math.MinInt, 0}, {math.MaxInt32 + 4, 0}, {1 << 32, 0}, {1<<32 + 1, 0},
	} {
		for field := range 12 {
			to := make([]int, 12)
			to[field] = c.to
			kept := make([]int, 12)
			kept[field] = c.kept
			for i := range 3 {
				cells := []api.Cell{alive(0), alive(1), alive(2)}
				cells[i].To = to
				h := cell.Load(fields(12), cells)
				if got := h.Cells()[i]; !slices.Equal(got.To, kept) {
					t.Errorf("cell %d, field %d: %v, want %v", i+1, field, got.To, kept)
				}
				wantGet(t, h, i+1, field, c.kept, 0)
				cells[i].Freed = true
				h = cell.Load(fields(12), cells)
				if got := h.Cells()[i]; !slices.Equal(got.To, make([]int, 12)) {
					t.Errorf("freed cell %d, field %d: %v", i+1, field, got.To)
				}
			}
		}
	}
}

// P14.1: lists of To that are as long as the list of fields, shorter and longer.
func TestLoadHoldsLists(t *testing.T) {
	for _, n := range []int{0, 1, 2, 3, 7, 8, 9, 17} {
		for long := range 20 {
			to := slices.Repeat([]int{2}, long)
			kept := make([]int, n)
			for field := range min(n, long) {
				kept[field] = 2
			}
			h := cell.Load(fields(n), []api.Cell{{Type: 3, To: to}, {Type: 4, To: to, Freed: true}, {Type: 5}})
			none := make([]int, n)
			wantCells(t, fmt.Sprintf("%d fields, %d numbers", n, long), h, alive(3, kept...), freed(4, none...), alive(5, none...))
			for field := range 20 {
				lead := 0
				if field < min(n, long) {
					lead = 2
				}
				wantGet(t, h, 1, field, lead, 0)
			}
		}
	}
}

// P14.1: a cell that leads to a freed one does so still.
func TestLoadKeepsWhatLeadsToFreedCells(t *testing.T) {
	h := cell.Load(fields(2), []api.Cell{alive(6, 2, 1), freed(-7, 1, 2), alive(8, 2, 2)})
	wantCells(t, "Load", h, alive(6, 2, 1), freed(-7, 0, 0), alive(8, 2, 2))
	wantGet(t, h, 1, 0, 2, 0)
	wantGet(t, h, 2, 0, 0, api.ByUse)
	want(t, "Free(2)", h.Free(2), api.ByTwice)
	want(t, "Free(3)", h.Free(3), 0)
	wantCells(t, "Free", h, alive(6, 2, 1), freed(-7, 0, 0), freed(8, 0, 0))
}

// types are numbers of structs, of any kind.
var types = []int{0, 1, 7, 8, -1, math.MinInt, math.MaxInt, 1 << 32}

// P14.1: Add's number and Type; numbers are not used again.
func TestAdd(t *testing.T) {
	for _, n := range []int{0, 1, 8, 9} {
		h := cell.New(fields(n))
		var cells []api.Cell
		for i, kind := range types {
			want(t, "Add", h.Add(kind), 2*i+1)
			want(t, "Add", h.Add(kind), 2*i+2)
			want(t, "Put", h.Put(2*i+2, n-1, 1), 0)
			want(t, "Free", h.Free(2*i+2), 0)
			cells = append(cells, alive(kind, make([]int, n)...), freed(kind, make([]int, n)...))
			wantCells(t, "Add, Add, Put, Free", h, cells...)
		}
	}
}

// P14.1: Add goes on behind the cells that were loaded.
func TestAddBehindLoad(t *testing.T) {
	h := cell.Load(fields(1), []api.Cell{alive(5, 3), freed(6, 1), alive(7, 2)})
	want(t, "Add", h.Add(9), 4)
	wantCells(t, "Load, Add", h, alive(5, 3), freed(6, 0), alive(7, 2), alive(9, 0))
	want(t, "Put", h.Put(1, 0, 4), 0)
	want(t, "Put", h.Put(4, 0, 4), 0)
	wantCells(t, "Put", h, alive(5, 4), freed(6, 0), alive(7, 2), alive(9, 4))
}

// What led past the end does not lead to a cell that comes there later.
func TestAddDoesNotCallBack(t *testing.T) {
	h := cell.Load(fields(9), []api.Cell{alive(0, 2, 3, 0, 0, 0, 0, 0, 0, 2)})
	h.Put(1, 2, 2)
	want(t, "Add", h.Add(1), 2)
	want(t, "Add", h.Add(1), 3)
	for field := range 9 {
		wantGet(t, h, 1, field, 0, 0)
	}
}

// P14.2: Put, of a place that leads nowhere, and of one that leads to a cell.
func TestPut(t *testing.T) {
	for _, n := range []int{1, 2, 8, 9, 20} {
		for field := range n {
			for _, first := range []int{0, 1, 2, 3} {
				for _, c := range about(3) {
					h := cell.Load(fields(n), []api.Cell{alive(1), alive(2), freed(3)})
					want(t, "Put", h.Put(2, field, first), 0)
					want(t, "Put", h.Put(2, field, c), 0)
					lead := 0
					if 1 <= c && c <= 3 {
						lead = c
					}
					wantGet(t, h, 2, field, lead, 0)
					to := make([]int, n)
					to[field] = lead
					none := make([]int, n)
					wantCells(t, fmt.Sprintf("%d fields: Put(2, %d, %d)", n, field, c), h, alive(1, none...), alive(2, to...), freed(3, none...))
				}
			}
		}
	}
}

// P14.2: what names a null or a freed cell, or no field, changes nothing.
func TestNothingHappens(t *testing.T) {
	for _, n := range []int{1, 3, 8, 9, 12} {
		to := slices.Repeat([]int{2}, n)
		none := make([]int, n)
		h := cell.Load(fields(n), []api.Cell{alive(4, to...), alive(5, to...), freed(6)})
		check := func() {
			t.Helper()
			wantCells(t, "behind it", h, alive(4, to...), alive(5, to...), freed(6, none...))
		}
		for _, null := range append([]int{0, 4, 5}, ends...) {
			want(t, "Free", h.Free(null), api.ByNull)
			check()
			for _, field := range about(n) {
				wantGet(t, h, null, field, 0, api.ByNull)
				want(t, "Put", h.Put(null, field, 1), api.ByNull)
				check()
			}
		}
		want(t, "Free", h.Free(3), api.ByTwice)
		check()
		for _, field := range about(n) {
			wantGet(t, h, 3, field, 0, api.ByUse)
			for _, lead := range about(3) {
				want(t, "Put", h.Put(3, field, lead), api.ByUse)
				check()
			}
		}
		for _, field := range append([]int{n, n + 1}, ends...) {
			wantGet(t, h, 1, field, 0, 0)
			for _, lead := range about(3) {
				want(t, "Put", h.Put(1, field, lead), 0)
				check()
			}
		}
	}
}

// P14.2: Free takes all that the cell leads to, and nothing of others.
func TestFree(t *testing.T) {
	for _, n := range []int{0, 1, 2, 8, 9, 20} {
		to := slices.Repeat([]int{2}, n)
		none := make([]int, n)
		h := cell.Load(fields(n), []api.Cell{alive(4, to...), alive(5, to...), alive(6, to...)})
		want(t, "Free(2)", h.Free(2), 0)
		wantCells(t, "Free(2)", h, alive(4, to...), freed(5, none...), alive(6, to...))
		want(t, "Free(2)", h.Free(2), api.ByTwice)
		for field := range n {
			wantGet(t, h, 2, field, 0, api.ByUse)
			want(t, "Put", h.Put(2, field, 1), api.ByUse)
			wantGet(t, h, 1, field, 2, 0)
		}
		wantCells(t, "Free(2), Free(2)", h, alive(4, to...), freed(5, none...), alive(6, to...))
		want(t, "Free(1)", h.Free(1), 0)
		want(t, "Free(3)", h.Free(3), 0)
		wantCells(t, "all are freed", h, freed(4, none...), freed(5, none...), freed(6, none...))
		want(t, "Add", h.Add(7), 4)
		wantCells(t, "one more", h, freed(4, none...), freed(5, none...), freed(6, none...), alive(7, none...))
	}
}

// P14.2: whose a field is, and which struct it leads to, says nothing of a cell's places.
func TestFieldsOfOtherStructs(t *testing.T) {
	l := []api.Field{{Owner: 0, Target: 1}, {Owner: 1, Target: 0}, {Owner: -4, Target: math.MaxInt}}
	h := cell.New(l)
	for i := range 3 {
		want(t, "Add", h.Add(i), i+1)
	}
	for c := range 3 {
		for field := range 3 {
			for to := range 4 {
				want(t, "Put", h.Put(c+1, field, to), 0)
				wantGet(t, h, c+1, field, to, 0)
			}
		}
	}
	wantCells(t, "all places", h, alive(0, 3, 3, 3), alive(1, 3, 3, 3), alive(2, 3, 3, 3))
}

// P14.3: a freed cell leads nowhere, whatever is done behind it.
func TestFreedForGood(t *testing.T) {
	h, m := cell.New(fields(10)), newModel(10)
	for i := range 4 {
		step{kind: 'a', cell: i}.do(t, "four cells", h, m)
	}
	for field := range 10 {
		step{'p', 2, field, 3}.do(t, "its places", h, m)
	}
	step{kind: 'f', cell: 2}.do(t, "Free(2)", h, m)
	s := lot(1)
	for range 3000 {
		if s.below(50) == 0 {
			h = cell.Load(fields(10), h.Cells())
		}
		x := s.step(4, 10)
		if s.below(2) == 0 {
			x.cell = 2
		}
		x.do(t, "behind Free(2)", h, m)
		field := s.below(10)
		wantGet(t, h, 2, field, 0, api.ByUse)
		if c := h.Cells()[1]; !c.Freed || c.Type != 1 || !slices.Equal(c.To, make([]int, 10)) {
			t.Fatalf("%v: the freed cell: %v", x, c)
		}
	}
}

// P14.3: what was put is got, until something else is put there, or the cell is freed.
func TestWhatWasPutIsGot(t *testing.T) {
	h := cell.New(fields(11))
	for i := range 5 {
		h.Add(i)
	}
	lead := func(c, field int) int { return (c*7 + field*3) % 6 }
	for c := range 5 {
		for field := range 11 {
			want(t, "Put", h.Put(c+1, field, lead(c, field)), 0)
		}
	}
	want(t, "Free(3)", h.Free(3), 0)
	for range 2 {
		for c := range 5 {
			for field := range 11 {
				if c == 2 {
					wantGet(t, h, 3, field, 0, api.ByUse)
				} else {
					wantGet(t, h, c+1, field, lead(c, field), 0)
				}
			}
		}
		h.Add(9)
	}
}

// Cells that were loaded from Cells are the same.
func TestThereAndBack(t *testing.T) {
	cells := []api.Cell{alive(1, 3, 1, 0, 2, 0, 0, 1, 2, 3, 0, 4), freed(2, make([]int, 11)...), alive(3, 0, 0, 0, 0, 0, 0, 0, 0, 0, 4, 0), alive(-4, make([]int, 11)...)}
	h := cell.Load(fields(11), cells)
	wantCells(t, "Load", h, cells...)
	wantCells(t, "Load of Cells", cell.Load(fields(11), h.Cells()), cells...)
}

// The chapter's Heap has no field that one sees.
func TestHeapIsHidden(t *testing.T) {
	kind := reflect.TypeFor[cell.Heap]()
	for i := range kind.NumField() {
		if kind.Field(i).IsExported() {
			t.Errorf("the heap's %s is not hidden", kind.Field(i).Name)
		}
	}
}

// R5: heaps that no call made have no fields and no cells, and get none.
func TestHeapsThatNoCallMade(t *testing.T) {
	for i, h := range []*cell.Heap{nil, {}, new(cell.Heap)} {
		what := fmt.Sprint("heap ", i)
		for range 2 {
			holdCells(t, what, h, newModel(0))
			for _, n := range about(3) {
				want(t, "Add", h.Add(n), 0)
				want(t, "Free", h.Free(n), api.ByNull)
				for _, field := range about(3) {
					wantGet(t, h, n, field, 0, api.ByNull)
					want(t, "Put", h.Put(n, field, 1), api.ByNull)
				}
			}
		}
	}
}
