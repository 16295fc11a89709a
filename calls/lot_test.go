package calls_test

import (
	"testing"

	"umbral/api"
)

// lot tells numbers by lot, the same ones in each run.
type lot uint64

func (s *lot) below(n int) int {
	*s = *s*6364136223846793005 + 1442695040888963407
	return int(uint64(*s>>33) % uint64(n))
}

// maker makes programs by lot: those whose odds are many call but seldom.
type maker struct {
	lot
	names []string
	odds  int
}

func (w *maker) name() string { return w.names[w.below(len(w.names))] }

// stmts is a list of statements of any kind, with room behind its end.
func (w *maker) stmts(deep int) []api.Stmt {
	if deep == 0 || w.below(3) == 0 {
		return nil
	}
	l := make([]api.Stmt, 5)
	for i := range l {
		l[i] = api.Stmt{Kind: w.below(12) - 2, Name: w.name(), Then: w.stmts(deep - 1), Else: w.stmts(deep - 1)}
		if l[i].Kind == api.Call && w.below(w.odds) > 0 {
			l[i].Name = "none"
		}
	}
	return l[:w.below(6)]
}

func (w *maker) program(procs int) api.Program {
	l := make([]api.Proc, procs+2)
	for i := range l {
		l[i] = api.Proc{Name: w.name(), At: w.below(1000) - 500, End: w.below(1000), Body: w.stmts(3)}
		if w.below(6) > 0 {
			l[i].Name = w.names[i%len(w.names)]
		}
	}
	return api.Program{Procs: l[:procs]}
}

func TestByLot(t *testing.T) {
	w := &maker{lot: 10, names: []string{"a", "main", "", "b", "c", "\xff", "d", "e", "f", "g"}}
	rings := 0
	const all = 4000
	for i := range all {
		w.odds = []int{1, 2, 5, 20}[i%4]
		p := w.program(i % 17)
		if holdAll(t, "by lot", p) {
			rings++
		}
	}
	if rings < all/5 || rings > all*4/5 {
		t.Errorf("%d of %d had a cycle", rings, all)
	}
}

func TestByLotNothingIsChanged(t *testing.T) {
	w := &maker{lot: 12, names: []string{"a", "main", "b", "c"}, odds: 4}
	for i := range 200 {
		p := w.program(i % 5)
		before := twin(p)
		holdAll(t, "by lot", p)
		if !untouched(p, before) {
			t.Fatal("by lot: the program is changed")
		}
	}
}

// Programs without a cycle: who calls stands ahead of, or behind, whom it calls, by an order that is shuffled.
func TestByLotWithoutCycles(t *testing.T) {
	s := lot(11)
	for i := range 1500 {
		size := i%20 + 1
		places := make([]int, size)
		for i := range places {
			j := s.below(i + 1)
			places[i], places[j] = places[j], i
		}
		p := api.Program{Procs: make([]api.Proc, size)}
		for i := range p.Procs {
			p.Procs[i].Name = string(rune('a' + i))
			if i == size/2 {
				p.Procs[i].Name = "main"
			}
		}
		for i := range p.Procs {
			for j := range p.Procs {
				for places[i] > places[j] && s.below(3) == 0 {
					p.Procs[i].Body = append(p.Procs[i].Body, call(p.Procs[j].Name))
				}
			}
		}
		if holdAll(t, names(p), p) {
			t.Errorf("%s has a cycle", names(p))
		}
	}
}
