package scope_test

import (
	"strconv"
	"testing"

	"umbral/api"
)

// lot tells numbers by lot, the same ones in each run.
type lot uint64

func (s *lot) below(n int) int {
	*s = *s*6364136223846793005 + 1442695040888963407
	return int(uint64(*s>>33) % uint64(n))
}

// planner makes programs by lot; one of odds names is one that may stand ahead, or be none.
type planner struct {
	lot
	odds int
	at   int
}

func (w *planner) place() int {
	w.at += w.below(7)
	return w.at * (1 - 2*w.below(2))
}

// name is most often the one that is of its place alone.
func (w *planner) name(i int) string {
	if w.below(w.odds) == 0 {
		return []string{"", "s0", "n1", "n2", "\xff", "x"}[w.below(6)]
	}
	return "n" + strconv.Itoa(i)
}

func (w *planner) kind(structs int) string {
	if w.below(w.odds) == 0 {
		return []string{"", "s0", "s7", "n1", "int"}[w.below(5)]
	}
	if i := w.below(structs + 1); i < structs {
		return "s" + strconv.Itoa(i)
	}
	return ""
}

// size is most often small, but may be at the cap, or past it.
func (w *planner) size(most int) int {
	if w.below(6) == 0 {
		return most + w.below(3) - 1
	}
	return w.below(5)
}

func (w *planner) decls(first, count, structs int, isField bool) []api.Decl {
	l := make([]api.Decl, 0, count+w.below(3))
	for i := range count {
		d := api.Decl{Type: w.kind(structs), Name: w.name(first + i), At: w.place()}
		if isField && d.Type == "" && w.below(w.odds) > 0 {
			d.Type = "s0"
		}
		l = append(l, d)
	}
	return l
}

func (w *planner) program() api.Program {
	var p api.Program
	structs, left := w.size(8), w.size(8)
	for i := range structs {
		s := api.Struct{Name: "s" + strconv.Itoa(i), At: w.place()}
		if w.below(w.odds) == 0 {
			s.Name = w.name(i)
		}
		count := w.below(left + 1)
		if i == structs-1 {
			count = left
		}
		left -= count
		s.Fields = w.decls(0, count, structs, true)
		p.Structs = append(p.Structs, s)
	}
	p.Globals = w.decls(0, w.size(16), structs, false)
	for i := range w.size(16) {
		count := w.size(16)
		params := w.below(count + 1)
		p.Procs = append(p.Procs, api.Proc{Name: w.name(i), At: w.place(),
			Params: w.decls(0, params, structs, false), Locals: w.decls(params, count-params, structs, false)})
	}
	return p
}

func TestBuildByLot(t *testing.T) {
	w := &planner{lot: 8}
	seen := map[api.Errno]int{}
	for i := range 3000 {
		w.odds = []int{5, 30, 300}[i%3]
		p := w.program()
		err := api.OK
		if all := faults(p); len(all) > 0 {
			err = all[0].err
		}
		seen[err]++
		holdBuild(t, "one by lot", p)
	}
	for _, err := range []api.Errno{api.OK, api.ErrMany, api.ErrTwice, api.ErrType, api.ErrNone} {
		if seen[err] < 30 {
			t.Errorf("by lot %v came but %d times: %v", err, seen[err], seen)
		}
	}
}

// All lists of up to three globals, parameters and locals, or fields, of a few names and Types.
func TestBuildOfAllShortLists(t *testing.T) {
	var all []api.Decl
	for _, name := range []string{"", "a", "b"} {
		for _, kind := range []string{"", "a", "z"} {
			all = append(all, api.Decl{Type: kind, Name: name})
		}
	}
	var lists [][]api.Decl
	lists = append(lists, nil)
	for first := 0; len(lists) < 1+9+81+729; first++ {
		for _, d := range all {
			l := append(lists[first][:len(lists[first]):len(lists[first])], d)
			l[len(l)-1].At = len(l)
			lists = append(lists, l)
		}
	}
	for _, l := range lists {
		for _, structs := range [][]api.Struct{nil, {{Name: "a"}}, {{Name: ""}, {Name: "a"}}} {
			holdBuild(t, "globals", api.Program{Structs: structs, Globals: l})
			for i := range len(l) + 1 {
				q := api.Proc{Params: l[:i:i], Locals: l[i:]}
				holdBuild(t, "parameters and locals", api.Program{Structs: structs, Procs: []api.Proc{q}})
				own := append([]api.Struct{{Name: "b", Fields: l[:i:i]}, {Name: "c", Fields: l[i:]}}, structs...)
				holdBuild(t, "fields", api.Program{Structs: own})
			}
		}
	}
}
