package state

import (
	"umbral/api"
)

// Holds tells whether a run goes on by a in s: whether what is asked by a is so, or, without Sense, is not so; true, if nothing is asked.
func Holds(s api.State, a api.Action, in int) bool {
	switch a.Kind {
	case api.DoSame:
		return (value(s.Vars, a.X) == value(s.Vars, a.Y)) == a.Sense
	case api.DoPick:
		return (in != 0) == a.Sense
	case api.DoTest:
		return compared(a.Op, number(s.Ints, a.L), number(s.Ints, a.R)) == a.Sense
	}
	return true
}

// compared tells what a test asks of two numbers.
func compared(op, left, right int) bool {
	if op == 0 {
		return left == right
	}
	return left < right
}

// value tells the value of a variable; 0, if it is not there, as null is.
func value(vars []int, x int) int {
	if !below(len(vars), x) {
		return 0
	}
	return vars[x]
}

// number tells the number that an operand is.
func number(ints []int, o api.Operand) int {
	if o.Var < 0 {
		return o.N
	}
	return value(ints, o.Var)
}
