// Package kleene is layer 1: truths of three values, as floats.
//
// A truth may be handed in as any float: each call takes what it means (Clean),
// and answers one of False, Maybe and True.
package kleene

import (
	"math"

	"umbral/api"
)

// The truths, from the least one to the greatest one.
const (
	False = 0.0
	Maybe = 0.5
	True  = 1.0
)

// Clean tells the truth that a float means.
func Clean(x float64) float64 {
	switch {
	case x <= 0:
		// Not x itself: a nought with a sign is to lose it.
		return False
	case x >= 1:
		return True
	case math.IsNaN(x):
		// NaN has no rank among the truths: as little is known of it as of
		// what lies between them.
		fallthrough
	default:
		return Maybe
	}
}

// Not tells the other end: True of False, False of True, Maybe of Maybe.
func Not(x float64) float64 {
	return True - Clean(x)
}

// And tells the least truth of l, True of none.
func And(l ...float64) float64 {
	least := True
	for _, x := range l {
		if truth := Clean(x); truth < least {
			least = truth
		}
	}
	return least
}

// Or tells the greatest truth of l, False of none.
func Or(l ...float64) float64 {
	greatest := False
	for _, x := range l {
		if truth := Clean(x); truth > greatest {
			greatest = truth
		}
	}
	return greatest
}

// Join tells the truth that all of l are, Maybe if there is no such.
func Join(l ...float64) float64 {
	if len(l) == 0 {
		return Maybe
	}
	first := Clean(l[0])
	for _, x := range l[1:] {
		if Clean(x) != first {
			return Maybe
		}
	}
	return first
}

// Ite tells a if c is True, b if c is False, and else Join of both.
func Ite(c, a, b float64) float64 {
	switch Clean(c) {
	case True:
		return Clean(a)
	case False:
		return Clean(b)
	}
	return Join(a, b)
}

// Holds tells whether wide leaves open what x is, or is the same.
func Holds(wide, x float64) bool {
	truth := Clean(wide)
	return truth == Maybe || truth == Clean(x)
}

// Text tells a truth's sign.
func Text(x float64) string {
	switch Clean(x) {
	case False:
		return "0"
	case True:
		return "1"
	}
	return "?"
}

// Parse tells the truth that has the Text s, ErrBad if none has.
func Parse(s string) (float64, api.Errno) {
	switch s {
	case "0":
		return False, api.OK
	case "?":
		return Maybe, api.OK
	case "1":
		return True, api.OK
	}
	return False, api.ErrBad
}
