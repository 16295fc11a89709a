package parse_test

import (
	"reflect"
	"slices"
	"strings"
	"testing"

	"umbral/api"
	"umbral/lex"
	"umbral/parse"
)

// alphabet holds signs of all sorts.
func alphabet() []string {
	return strings.Fields("struct int void null new free if else while input -> == != >= { } ( ) ; , * = < + - ? x t 7")
}

// TestWritten: P6.1, P6.2: trees and places of programs by lot.
func TestWritten(t *testing.T) {
	for i := range 600 {
		w := &writer{lot: lot(i), left: 400, tight: i%3 == 0}
		p := w.program()
		programs.is(t, string(w.text), p)
		w = &writer{lot: lot(i), left: 400, tight: i%3 == 0}
		l := w.stmts(3 + i%18)
		lists.is(t, string(w.text), l)
	}
}

// TestFewSigns: P6.3: all rows of a few signs, as far as they may be right.
func TestFewSigns(t *testing.T) {
	n := lists.few(t, nil, nil, 6)
	n += programs.few(t, nil, nil, 9)
	n += programs.few(t, strings.Fields("void p ( ) {"), nil, 5)
	n += programs.few(t, strings.Fields("struct t { t * n ; } void p ( t * x , int i ) { int j ; t * y ;"), nil, 4)
	n += lists.few(t, strings.Fields("if ( ? ) { } else { x = y ->"), nil, 4)
	t.Log(n, "rows")
}

// few holds the row of signs, and each row that is right and has up to more signs behind it, against the grammar, and tells how many there are.
func (c call) few(t *testing.T, row []string, now []*due, more int) int {
	t.Helper()
	src := strings.Join(row, " ")
	if now == nil {
		now = c.begin()
		signs, _, _ := lex.All(src)
		for _, s := range signs[:len(row)] {
			now = step(now, s)
		}
	}
	c.ended(t, src, now)
	if more == 0 {
		return 1
	}
	n := 1
	for _, text := range alphabet() {
		sign, _, _ := lex.Next(text, 0)
		if then := step(now, sign); len(then) > 0 {
			n += c.few(t, append(slices.Clip(row), text), then, more-1)
			continue
		}
		at := len(src)
		if at > 0 {
			at++
		}
		c.fails(t, src+strings.Repeat(" ", at-len(src))+text, at, api.ErrSyntax)
	}
	return n
}

// ended holds a text that is right so far against whether it may end.
func (c call) ended(t *testing.T, src string, now []*due) {
	t.Helper()
	if len(step(now, lex.Sign{})) == 0 {
		c.fails(t, src, len(src), api.ErrSyntax)
	} else {
		c.passes(t, src)
	}
}

// forms have each form of a statement.
func forms() []string {
	return []string{
		"; { ; } { } free ( x -> n ) ; x = null ; x -> n -> m = new t ; i = input ;",
		"x = a -> n ; i = 7 ; i = i + 1 ; i = 1 - j ; i = x ;",
		"p ( ) ; q ( x -> n , 7 ) ; q ( null , i ) ; { { x = y ; } ; }",
		"if ( ? ) { } if ( x == null ) { p ( ) ; } else { x = a ; } if ( x != a -> n ) { } else { }",
		"while ( i < 7 ) { i = i + j ; } while ( 7 >= i ) { } while ( ? ) { if ( x == x ) { } }",
	}
}

// rich has all else.
const rich = "struct t { t * n ; u * m ; } struct u { } int i ; t * x ; void p ( ) { } void q ( t * a , int k ) { int j ; u * b ; ; }"

// TestChanged: P6.1 to P6.3: each sign left out, put twice, put in another's place, and changed with the one behind it.
func TestChanged(t *testing.T) {
	programs.changed(t, strings.Fields(rich))
	for _, form := range forms() {
		lists.changed(t, strings.Fields(form))
		programs.changed(t, strings.Fields("void p ( ) { "+form+" } int j ;"))
	}
}

func (c call) changed(t *testing.T, row []string) {
	t.Helper()
	c.passes(t, strings.Join(row, " "))
	for i := range row {
		ahead, behind := row[:i:i], row[i+1:]
		c.judged(t, strings.Join(append(ahead, behind...), " "))
		c.judged(t, strings.Join(ahead, " "))
		for _, text := range append(alphabet(), "$", "99999999999") {
			c.judged(t, strings.Join(append(append(ahead, text), behind...), "\n"))
			c.judged(t, strings.Join(append(append(ahead, text, row[i]), behind...), " "))
		}
		if i+1 < len(row) {
			c.judged(t, strings.Join(append(append(ahead, row[i+1], row[i]), row[i+2:]...), " "))
		}
	}
}

// TestChangedByLot: P6.1 to P6.3: programs by lot in which some signs are others.
func TestChangedByLot(t *testing.T) {
	s := lot(7)
	found := map[api.Errno]int{}
	for i := range 1500 {
		w := &writer{lot: lot(i), left: 400}
		w.program()
		row := fields(string(w.text))
		for range 1 + s.below(3) {
			if len(row) > 0 {
				row[s.below(len(row))] = s.one(alphabet()...)
			}
		}
		found[programs.judged(t, strings.Join(row, " "))]++
		if i%5 == 0 {
			found[lists.judged(t, s.bulk())]++
		}
	}
	for _, err := range []api.Errno{api.OK, api.ErrSyntax, api.ErrDeep, api.ErrMany} {
		if found[err] < 20 {
			t.Errorf("%v: only %d", err, found[err])
		}
	}
}

// fields tells the texts of all signs.
func fields(src string) []string {
	var out []string
	signs, _, _ := lex.All(src)
	for _, s := range signs[:len(signs)-1] {
		out = append(out, s.Text)
	}
	return out
}

// bulk makes statements by lot that come near all caps, right ones or not.
func (s *lot) bulk() string {
	var all []string
	open := 0
	for range s.below(450) {
		switch n := s.below(40); {
		case n < 4 && open < 21:
			all = append(all, nests()[s.below(4)])
			open++
		case n < 6 && open > 0:
			all = append(all, "}")
			open--
		case n < 8:
			all = append(all, "x"+strings.Repeat("->n", s.below(8)+s.below(2)*s.below(2))+" = y;")
		case n == 8 && s.below(20) == 0:
			all = append(all, s.one(alphabet()...))
		default:
			all = append(all, s.one(";", "{}", "p(x, 7);", "x = y + 7;", "if (x < y) {} else {;}"))
		}
	}
	return strings.Join(all, " ") + strings.Repeat("}", open)
}

// TestAnyText: P1, P6.1, P6.2: texts of any signs and bytes; no call panics.
func TestAnyText(t *testing.T) {
	s := lot(3)
	for range 20000 {
		var src string
		for range s.below(12) {
			if s.below(30) == 0 {
				src += string([]byte{byte(s.below(256))})
			}
			src += s.one(alphabet()...) + s.one("", " ")
		}
		programs.judged(t, src)
		lists.judged(t, src)
	}
}

// lists of v, each as the bytes that it has, with its spare room.
func spans(v reflect.Value, out [][2]uintptr) [][2]uintptr {
	switch v.Kind() {
	case reflect.Struct:
		for i := range v.NumField() {
			out = spans(v.Field(i), out)
		}
	case reflect.Slice:
		if v.Cap() > 0 {
			out = append(out, [2]uintptr{v.Pointer(), v.Pointer() + uintptr(v.Cap())*v.Type().Elem().Size()})
		}
		for i := range v.Len() {
			out = spans(v.Index(i), out)
		}
	}
	return out
}

// TestMemory: R3: no two lists of an answer, or of two answers, share any, their spare room too.
func TestMemory(t *testing.T) {
	for i := range 300 {
		w := &writer{lot: lot(i), left: 400}
		w.program()
		src := string(w.text)
		one, _, _ := parse.Program(src)
		two, _, _ := parse.Program(src)
		w = &writer{lot: lot(i), left: 400}
		w.stmts(4)
		three, _, _ := parse.Stmts(string(w.text))
		four, _, _ := parse.Stmts(string(w.text))
		var all [][2]uintptr
		for _, x := range []any{one, two, three, four} {
			all = spans(reflect.ValueOf(x), all)
		}
		slices.SortFunc(all, func(a, b [2]uintptr) int { return slices.Compare(a[:], b[:]) })
		for k := 1; k < len(all); k++ {
			if all[k][0] < all[k-1][1] {
				t.Fatalf("%s: two lists share memory", short(src))
			}
		}
	}
}

// TestAgain: R4: a call answers the same again, whatever was asked between.
func TestAgain(t *testing.T) {
	want, _, _ := parse.Program(rich)
	first := show(want)
	for _, src := range []string{"", rich, "x", strings.Repeat("{", 30), "$", rich + "}"} {
		programs.judged(t, src)
		lists.judged(t, src)
		got, at, err := parse.Program(rich)
		if show(got) != first || at != 0 || err != api.OK {
			t.Errorf("Program behind %s: %d, %v", short(src), at, err)
		}
	}
}
