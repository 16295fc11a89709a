package action

import (
	"strconv"
	"strings"

	"umbral/api"
)

// words holds the word of each kind of action.
var words = [...]string{
	api.DoSkip: "skip",
	api.DoNull: "null",
	api.DoCopy: "copy",
	api.DoLoad: "load",
	api.DoCut:  "cut",
	api.DoLink: "link",
	api.DoNew:  "new",
	api.DoFree: "free",
	api.DoSame: "same",
	api.DoPick: "pick",
	api.DoTake: "take",
	api.DoPut:  "put",
	api.DoTest: "test",
}

// sums holds the signs of DoPut by Op: of 0 there is none.
var sums = [...]string{"", "+", "-"}

// orders holds the signs of DoTest by Op.
var orders = [...]string{"==", "<"}

// The words of which a part may be no number.
const (
	noCell = "null"
	yes    = "yes"
	no     = "no"
)

// intSign stands ahead of a number variable.
const intSign = "i"

func kindOf(word string) (int, bool) {
	for kind, w := range words {
		if w == word {
			return kind, true
		}
	}
	return 0, false
}

// text tells the part's words in a, with a blank ahead of each.
func (p part) text(a api.Action) string {
	switch p {
	case none:
		return ""
	case left:
		return " " + operandText(a.L)
	case right:
		return " " + operandText(a.R)
	case more:
		if a.Op == 0 {
			return ""
		}
		return " " + sums[a.Op] + " " + operandText(a.R)
	case order:
		return " " + orders[a.Op]
	case sense:
		if a.Sense {
			return " " + yes
		}
		return " " + no
	}
	n := *p.number(&a)
	if n < 0 {
		return " " + noCell
	}
	return " " + spans[p].sign + strconv.Itoa(n)
}

func operandText(o api.Operand) string {
	if o.Var < 0 {
		return strconv.Itoa(o.N)
	}
	return intSign + strconv.Itoa(o.Var)
}

// reader tells a text word by word.
type reader struct {
	rest string
}

func (r *reader) next() string {
	word, rest, _ := strings.Cut(r.rest, " ")
	r.rest = rest
	return word
}

// read takes the part's words from r, and puts into a what they may mean.
// It does not look whether they are right, since Parse holds them against Text.
func (p part) read(r *reader, a *api.Action) {
	switch p {
	case none:
	case left:
		a.L = operandOf(r.next())
	case right:
		a.R = operandOf(r.next())
	case more:
		a.Op = r.sum()
		if a.Op != 0 {
			a.R = operandOf(r.next())
		}
	case order:
		if r.next() == orders[1] {
			a.Op = 1
		}
	case sense:
		a.Sense = r.next() == yes
	default:
		*p.number(a) = numberOf(r.next())
	}
}

// sum takes the sign of a sum, if one is next, and tells its Op.
func (r *reader) sum() int {
	for op := 1; op < len(sums); op++ {
		if strings.HasPrefix(r.rest, sums[op]) {
			r.next()
			return op
		}
	}
	return 0
}

// numberOf tells the number behind a word's sign, which is one byte.
func numberOf(word string) int {
	if word == "" || word == noCell {
		return -1
	}
	n, _ := strconv.Atoi(word[1:])
	return n
}

func operandOf(word string) api.Operand {
	if strings.HasPrefix(word, intSign) {
		return api.Operand{Var: numberOf(word)}
	}
	n, _ := strconv.Atoi(word)
	return api.Operand{Var: -1, N: n}
}
