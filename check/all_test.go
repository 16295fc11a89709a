package check_test

import (
	"strings"
	"testing"

	"umbral/api"
)

// form is a path or value as a text: its type, or its error and the place of it, counted from its first byte on.
type form struct {
	text string
	kind int
	err  api.Errno
	at   int
}

// The types of base, of numbers and of null.
const (
	ofA   = 0
	ofB   = 1
	ofC   = 2
	ofInt = -1
	ofNo  = -2
)

func pathForms() []form {
	return []form{
		{"i", ofInt, api.OK, 0}, {"j", ofInt, api.OK, 0}, {"x", ofA, api.OK, 0}, {"u", ofA, api.OK, 0}, {"y", ofB, api.OK, 0}, {"z", ofC, api.OK, 0},
		{"x->s", ofA, api.OK, 0}, {"y->o", ofA, api.OK, 0}, {"x->o", ofB, api.OK, 0}, {"y->s->s", ofB, api.OK, 0}, {"x->o->o->s", ofA, api.OK, 0},
		{"v", 0, api.ErrNone, 0}, {"v->s", 0, api.ErrNone, 0}, {"x->v", 0, api.ErrNone, 1}, {"x->o->v->s", 0, api.ErrNone, 4}, {"z->s", 0, api.ErrNone, 1},
		{"i->s", 0, api.ErrType, 1}, {"i->v->s", 0, api.ErrType, 1},
	}
}

func termForms() []form {
	l := []form{{"0", ofInt, api.OK, 0}, {"3", ofInt, api.OK, 0}}
	for _, f := range pathForms() {
		if !strings.Contains(f.text, "->") {
			l = append(l, f)
		}
	}
	return l
}

// sumForm is two terms with a sign between: a number, or the first term's error ahead of the second one's.
func sumForm(a, b form, sign string) form {
	f := form{text: a.text + sign + b.text, kind: ofInt}
	switch {
	case a.err != api.OK:
		f.err = a.err
	case a.kind != ofInt:
		f.err = api.ErrType
	case b.err != api.OK:
		f.err, f.at = b.err, len(a.text)+len(sign)
	case b.kind != ofInt:
		f.err, f.at = api.ErrType, len(a.text)+len(sign)
	}
	return f
}

// sideForms are what may be handed on, or held against another one.
func sideForms() []form {
	return append(pathForms(), form{"null", ofNo, api.OK, 0}, form{"0", ofInt, api.OK, 0}, form{"12", ofInt, api.OK, 0})
}

func valueForms() []form {
	return append(sideForms(), form{"input", ofInt, api.OK, 0}, form{"new a", ofA, api.OK, 0}, form{"new b", ofB, api.OK, 0}, form{"new c", ofC, api.OK, 0},
		form{"new v", 0, api.ErrNone, 0}, form{"new i", 0, api.ErrNone, 0}, form{"new A", 0, api.ErrNone, 0})
}

// fitting is what is to be told of a value that is to be of a type, and that begins at a place.
func fitting(f form, kind, at int) fault {
	isPointer := kind != ofInt
	if f.err != api.OK {
		return fault{at + f.at, f.err}
	}
	if f.kind == kind || f.kind == ofNo && isPointer {
		return fault{}
	}
	return fault{at, api.ErrType}
}

func holdText(t *testing.T, text string, want fault) {
	t.Helper()
	p, _ := read(t, text)
	holdWrong(t, text[len(base):], p, want.at, want.err)
}

// Each value is put to each path.
func TestCheckOfAllSets(t *testing.T) {
	ahead := base + "void main() { "
	for _, place := range pathForms() {
		for _, f := range valueForms() {
			head := ahead + place.text + " = "
			want := fault{len(ahead) + place.at, place.err}
			if place.err == api.OK {
				want = fitting(f, place.kind, len(head))
			}
			holdText(t, head+f.text+"; }", want)
		}
	}
}

// Each sum is put to each path: a sum that is to be no number is wrong, whatever its terms are.
func TestCheckOfAllSums(t *testing.T) {
	ahead := base + "void main() { "
	for _, place := range pathForms() {
		head := ahead + place.text + " = "
		for _, a := range termForms() {
			for _, b := range termForms() {
				for _, sign := range []string{" + ", " - "} {
					f := sumForm(a, b, sign)
					want := fault{len(ahead) + place.at, place.err}
					if place.err == api.OK {
						want = fault{len(head), api.ErrType}
					}
					if place.err == api.OK && place.kind == ofInt {
						want = fitting(f, ofInt, len(head))
					}
					holdText(t, head+f.text+"; }", want)
				}
			}
		}
	}
}

func TestCheckOfAllFrees(t *testing.T) {
	ahead := base + "void main() { free("
	for _, place := range pathForms() {
		want := fault{len(ahead) + place.at, place.err}
		if place.err == api.OK {
			want = fault{}
		}
		if place.err == api.OK && place.kind == ofInt {
			want = fault{len(ahead), api.ErrType}
		}
		holdText(t, ahead+place.text+"); }", want)
	}
}

// Each two are handed on for each two parameters: the first wrong one counts.
func TestCheckOfAllArguments(t *testing.T) {
	kinds := []string{"int", "a*", "b*", "c*"}
	for first, one := range kinds {
		for second, two := range kinds {
			ahead := base + "void f(" + one + " k, " + two + " l) { } void main() { f("
			for _, a := range sideForms() {
				for _, b := range sideForms() {
					want := fitting(a, first-1, len(ahead))
					if want == (fault{}) {
						want = fitting(b, second-1, len(ahead)+len(a.text)+2)
					}
					holdText(t, ahead+a.text+", "+b.text+"); }", want)
				}
			}
		}
	}
}

// Each number of arguments is handed on for each number of parameters.
func TestCheckOfAllCounts(t *testing.T) {
	for params := range 7 {
		for args := range 8 {
			ahead := base + "void f(" + strings.Trim(many(params, "int k%, "), ", ") + ") { } void main() { "
			for _, arg := range []string{"0, ", "null, "} {
				want := fault{}
				if params != args {
					want = fault{len(ahead), api.ErrType}
				} else if arg == "null, " && args > 0 {
					want = fault{len(ahead) + 2, api.ErrType}
				}
				holdText(t, ahead+"f("+strings.Trim(strings.Repeat(arg, args), ", ")+"); }", want)
			}
		}
	}
}

// holding is what is to be told of two right sides, and where the condition begins.
func holding(a, b form, mark string, at int) fault {
	right := a.kind == b.kind || a.kind == ofNo && b.kind != ofInt || b.kind == ofNo && a.kind != ofInt
	if mark == " < " || mark == " >= " {
		right = a.kind == ofInt && b.kind == ofInt
	}
	if right {
		return fault{}
	}
	return fault{at, api.ErrType}
}

// Each side is held against each other one, by each mark.
func TestCheckOfAllConditions(t *testing.T) {
	for _, word := range []string{"if", "while"} {
		ahead := base + "void main() { " + word + " ("
		holdText(t, ahead+"?) { } }", fault{})
		for _, mark := range []string{" == ", " != ", " < ", " >= "} {
			for _, a := range sideForms() {
				for _, b := range sideForms() {
					want := holding(a, b, mark, len(ahead))
					if a.err != api.OK {
						want = fault{len(ahead) + a.at, a.err}
					} else if b.err != api.OK {
						want = fault{len(ahead) + len(a.text) + len(mark) + b.at, b.err}
					}
					holdText(t, ahead+a.text+mark+b.text+") { } }", want)
				}
			}
		}
	}
}
