package calls

import (
	"umbral/api"
	"umbral/tree"
)

// most is the greatest cost that is told.
const most = 1 << 30

// bill adds up costs, of those that are called ahead of those that call.
type bill struct {
	numbers map[string]int
	costs   []int // by the procedures' numbers
}

// cost tells how many statements l comes to.
func (b bill) cost(l []api.Stmt) int {
	return b.followed(min(tree.Count(l), most), l)
}

// followed adds to sum, for each Call in l and in all lists within, the cost of what it calls.
func (b bill) followed(sum int, l []api.Stmt) int {
	for i := range l {
		s := &l[i]
		if to, found := b.numbers[s.Name]; found && s.Kind == api.Call {
			sum = capped(sum, b.costs[to])
		}
		sum = b.followed(b.followed(sum, s.Then), s.Else)
	}
	return sum
}

// capped adds two that are at most most: their sum may be more than an int of 32 bits holds.
func capped(a, b int) int {
	if b > most-a {
		return most
	}
	return a + b
}
