package action

import "umbral/api"

// part is something that an action may have beside its Kind.
type part uint8

// The kinds of parts.
const (
	none   part = iota // fills a form up
	toX                // X, a pointer variable
	toY                // Y, a pointer variable
	nullX              // X, a pointer variable or null
	nullY              // Y, a pointer variable or null
	intX               // X, a number variable
	field              // F
	record             // T
	place              // At
	left               // L
	right              // R
	more               // Op of DoPut and, unless it is 0, R
	order              // Op of DoTest
	sense              // Sense
)

// forms holds what each kind of action has, in the order in which its Text tells it.
var forms = [...][5]part{
	api.DoSkip: {place},
	api.DoNull: {toX, place},
	api.DoCopy: {toX, toY, place},
	api.DoLoad: {toX, toY, field, place},
	api.DoCut:  {toX, field, place},
	api.DoLink: {toX, field, toY, place},
	api.DoNew:  {toX, record, place},
	api.DoFree: {toX, place},
	api.DoSame: {nullX, nullY, sense, place},
	api.DoPick: {sense, place},
	api.DoTake: {intX, place},
	api.DoPut:  {intX, left, more, place},
	api.DoTest: {left, order, right, sense, place},
}

// span tells from where to where a number goes, and the sign ahead of it.
type span struct {
	sign  string
	least int
	most  int
}

// spans holds those of all parts that are one number.
var spans = [...]span{
	toX:    {"p", 0, api.MaxVars - 1},
	toY:    {"p", 0, api.MaxVars - 1},
	nullX:  {"p", -1, api.MaxVars - 1},
	nullY:  {"p", -1, api.MaxVars - 1},
	intX:   {"i", 0, api.MaxInts - 1},
	field:  {"f", 0, api.MaxFields - 1},
	record: {"s", 0, api.MaxStructs - 1},
	place:  {"@", 0, api.MaxSource},
}

// number leads to what a part that is one number is in a.
func (p part) number(a *api.Action) *int {
	switch p {
	case toX, nullX, intX:
		return &a.X
	case toY, nullY:
		return &a.Y
	case field:
		return &a.F
	case record:
		return &a.T
	}
	return &a.At
}

// take tells whether the part is as it may be, and makes it zero in a, so that what is left at last is what a may not have.
func (p part) take(a *api.Action) bool {
	switch p {
	case none:
		return true
	case left:
		return takeOperand(&a.L)
	case right:
		return takeOperand(&a.R)
	case more:
		op := a.Op
		return takeWithin(&a.Op, 0, len(sums)-1) && (op == 0 || takeOperand(&a.R))
	case order:
		return takeWithin(&a.Op, 0, len(orders)-1)
	case sense:
		a.Sense = false
		return true
	}
	return takeWithin(p.number(a), spans[p].least, spans[p].most)
}

func takeOperand(o *api.Operand) bool {
	if o.Var == -1 {
		o.Var = 0
		return takeWithin(&o.N, 0, api.MaxNumber)
	}
	return takeWithin(&o.Var, 0, api.MaxInts-1) && o.N == 0
}

func takeWithin(n *int, least, most int) bool {
	fits := least <= *n && *n <= most
	*n = 0
	return fits
}
