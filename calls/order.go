package calls

import (
	"container/heap"
	"sort"
)

// queue tells the least number first.
type queue struct{ sort.IntSlice }

// Push is for package heap.
func (q *queue) Push(x any) {
	if i, ok := x.(int); ok {
		q.IntSlice = append(q.IntSlice, i)
	}
}

// Pop is for package heap.
func (q *queue) Pop() any {
	last := len(q.IntSlice) - 1
	i := q.IntSlice[last]
	q.IntSlice = q.IntSlice[:last]
	return i
}

// next takes the least number.
func (q *queue) next() int {
	least := q.IntSlice[0]
	heap.Pop(q)
	return least
}

// order tells again and again the least one of which all that it calls was told; nothing, if some can never be told.
func (w web) order() []int {
	callers := w.turned()
	left := make([]int, len(w)) // how many that each one calls are still to be told
	ready := &queue{}
	for i, list := range w {
		left[i] = len(list)
		if left[i] == 0 {
			heap.Push(ready, i)
		}
	}
	order := make([]int, 0, len(w))
	for ready.Len() > 0 {
		i := ready.next()
		order = append(order, i)
		for _, caller := range callers[i] {
			left[caller]--
			if left[caller] == 0 {
				heap.Push(ready, caller)
			}
		}
	}
	if len(order) < len(w) {
		return nil
	}
	return order
}
