package calls

import (
	"slices"

	"umbral/api"
	"umbral/tree"
)

// web tells, by its number, the numbers of those that a procedure calls, each once.
type web [][]int

// numbered tells the number of the first procedure of each name.
func numbered(procs []api.Proc) map[string]int {
	numbers := make(map[string]int, len(procs))
	for i := range procs {
		if _, found := numbers[procs[i].Name]; !found {
			numbers[procs[i].Name] = i
		}
	}
	return numbers
}

// woven tells who calls whom.
func woven(procs []api.Proc) web {
	numbers := numbered(procs)
	w := make(web, len(procs))
	for i := range procs {
		for _, name := range tree.Calls(procs[i].Body) {
			if to, found := numbers[name]; found {
				w[i] = append(w[i], to)
			}
		}
	}
	return w
}

// turned tells who is called by whom.
func (w web) turned() web {
	back := make(web, len(w))
	for from, list := range w {
		for _, to := range list {
			back[to] = append(back[to], from)
		}
	}
	return back
}

// reach tells, rising, whom start comes to: itself too, but only by a call.
func (w web) reach(start int) []int {
	var found []int
	met := make([]bool, len(w))
	open := []int{start}
	for len(open) > 0 {
		ahead := len(found)
		for _, from := range open {
			for _, to := range w[from] {
				if !met[to] {
					met[to] = true
					found = append(found, to)
				}
			}
		}
		// What is open is a piece of what is found: it ends where it ends, so that neither grows into the other.
		open = found[ahead:len(found):len(found)]
	}
	slices.Sort(found)
	return found
}
