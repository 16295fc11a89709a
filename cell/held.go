package cell

import (
	"umbral/api"
)

// held is a cell as the heap holds it.
//
// No program has more than MaxFields fields, so that their places fit into an array. A list of fields may be of any length all the same: of places further on there are only those that lead somewhere, lest many cells with few of them need room for all.
type held struct {
	of    int // its struct
	freed bool
	near  [api.MaxFields]int
	far   map[int]int
}

// leads tells where a field leads, 0 if nowhere.
func (c *held) leads(field int) int {
	if field < len(c.near) {
		return c.near[field]
	}
	return c.far[field]
}

// lead makes a field lead to a cell, or, of 0, nowhere.
func (c *held) lead(field, to int) {
	switch {
	case field < len(c.near):
		c.near[field] = to
	case to == 0:
		delete(c.far, field)
	case c.far == nil:
		c.far = map[int]int{field: to}
	default:
		c.far[field] = to
	}
}

// places tells into a list where each of as many fields leads.
func (c *held) places(to []int) {
	copy(to, c.near[:])
	for field, cell := range c.far {
		to[field] = cell
	}
}
