package parse_test

import (
	"slices"
	"strings"

	"umbral/api"
	"umbral/lex"
)

// grammar is the chapter's.
const grammar = `
program = { struct | decl | proc } .
struct  = "struct" name "{" { name "*" name ";" } "}" .
decl    = ( "int" | name "*" ) name ";" .
proc    = "void" name "(" [ param { "," param } ] ")" "{" { decl } { stmt } "}" .
param   = ( "int" | name "*" ) name .
stmt    = ";" | "{" { stmt } "}" | "free" "(" path ")" ";" | path "=" value ";"
        | name "(" [ side { "," side } ] ")" ";"
        | "if" "(" cond ")" "{" { stmt } "}" [ "else" "{" { stmt } "}" ]
        | "while" "(" cond ")" "{" { stmt } "}" .
path    = name { "->" name } .
value   = "null" | "new" name | "input" | path | number | term ( "+" | "-" ) term .
term    = name | number .
cond    = "?" | side ( "==" | "!=" | "<" | ">=" ) side .
side    = "null" | path | number .
list    = { stmt } .
`

// The sorts of a grammar's parts.
const (
	sign   = iota // of that text, or any Name, any Number, the End
	choice        // one of its parts
	row           // all of its parts, one behind the other
	repeat        // its part, any number of times
	option        // its part, or nothing
)

type part struct {
	sort int
	text string
	of   []*part
}

// reader makes parts of a grammar's words.
type reader struct {
	words []string
	rules map[string]*part
}

func (r *reader) take() string {
	word := r.words[0]
	r.words = r.words[1:]
	return word
}

func (r *reader) choice() *part {
	all := &part{sort: choice, of: []*part{r.row()}}
	for r.words[0] == "|" {
		r.take()
		all.of = append(all.of, r.row())
	}
	return all
}

func (r *reader) row() *part {
	all := &part{sort: row}
	for !slices.Contains([]string{"|", ")", "]", "}", "."}, r.words[0]) {
		all.of = append(all.of, r.item())
	}
	return all
}

func (r *reader) item() *part {
	word := r.take()
	sorts := map[string]int{"(": row, "{": repeat, "[": option}
	if sort, found := sorts[word]; found {
		p := &part{sort: sort, of: []*part{r.choice()}}
		r.take()
		return p
	}
	if word == "name" || word == "number" || word[0] == '"' {
		return &part{sort: sign, text: strings.Trim(word, `"`)}
	}
	return r.rule(word)
}

// rule is the one of that name, whether it was read or will be.
func (r *reader) rule(name string) *part {
	if r.rules[name] == nil {
		r.rules[name] = &part{sort: choice}
	}
	return r.rules[name]
}

// start tells the part of that name.
func start(name string) *part {
	r := &reader{strings.Fields(grammar), map[string]*part{}}
	for len(r.words) > 0 {
		rule := r.rule(r.take())
		r.take()
		rule.of = r.choice().of
		r.take()
	}
	return r.rules[name]
}

// due is what must come next, one part behind the other; nil: nothing at all, not even the End.
type due struct {
	part *part
	then *due
}

// over adds to out all that may be due behind the sign s, which is nothing if s may not stand there.
func over(d *due, s lex.Sign, out []*due) []*due {
	if d == nil {
		return out
	}
	p := d.part
	switch p.sort {
	case sign:
		if fits(p.text, s) {
			out = append(out, d.then)
		}
		return out
	case choice:
		for _, one := range p.of {
			out = over(&due{one, d.then}, s, out)
		}
		return out
	case row:
		then := d.then
		for _, one := range slices.Backward(p.of) {
			then = &due{one, then}
		}
		return over(then, s, out)
	case repeat:
		return over(d.then, s, over(&due{p.of[0], d}, s, out))
	}
	return over(d.then, s, over(&due{p.of[0], d.then}, s, out))
}

func fits(text string, s lex.Sign) bool {
	switch s.Kind {
	case lex.End:
		return text == "end"
	case lex.Name:
		return text == "name"
	case lex.Number:
		return text == "number"
	}
	return text == s.Text
}

// model is what a call is to find wrong, by the grammar's rules.
type model struct {
	start   *part
	program bool // or statements alone
}

var (
	ofProgram = model{start("program"), true}
	ofStmts   = model{start("list"), false}
)

func (m model) begin() []*due {
	end := &due{&part{sort: sign, text: "end"}, nil}
	return []*due{{m.start, end}}
}

// step tells what may be due behind s.
func step(now []*due, s lex.Sign) []*due {
	var out []*due
	for _, d := range now {
		out = over(d, s, out)
	}
	return out
}

// wrong tells the place of the first error of src, and it.
func (m model) wrong(src string) (int, api.Errno) {
	signs, at, err := lex.All(src)
	if err != api.OK {
		return at, err
	}
	now := m.begin()
	c := caps{signs: signs, program: m.program}
	for i, s := range signs {
		if now = step(now, s); len(now) == 0 {
			return s.At, api.ErrSyntax
		}
		if err := c.see(i); err != api.OK {
			return s.At, err
		}
	}
	return 0, api.OK
}

// caps counts what there is no more than so much of, by the signs alone, which are right up to the one that is seen.
type caps struct {
	signs   []lex.Sign
	program bool
	braces  int
	arrows  int
	begun   int
	fields  bool // in a struct
	stood   bool // a statement, in this procedure
}

// see tells what is too much at sign i.
func (c *caps) see(i int) api.Errno {
	s := c.signs[i]
	c.place(s)
	deep := c.opens(s)
	many := c.leads(s)
	more := c.begins(i)
	switch {
	case deep:
		return api.ErrDeep
	case many, more && c.begun == 400:
		return api.ErrMany
	case more:
		c.begun++
		c.stood = true
	}
	return api.OK
}

func (c *caps) place(s lex.Sign) {
	switch s.Text {
	case "struct":
		c.fields = true
	case "}":
		c.fields = false
	case "void":
		c.stood = false
	}
}

// opens counts braces, and tells whether too many are around this one.
// In a program the outermost brace is a struct's or a procedure's own.
func (c *caps) opens(s lex.Sign) bool {
	around := c.braces
	if c.program {
		around--
	}
	switch s.Text {
	case "{":
		c.braces++
		return around == 20
	case "}":
		c.braces--
	}
	return false
}

// leads counts the arrows since a sign stood that no path has, and tells whether this one is the ninth.
func (c *caps) leads(s lex.Sign) bool {
	switch {
	case s.Text == "->":
		c.arrows++
		return c.arrows == 9
	case s.Kind != lex.Name:
		c.arrows = 0
	}
	return false
}

// begins tells whether a statement begins at sign i.
func (c *caps) begins(i int) bool {
	s := c.signs[i]
	if c.fields || c.program && c.braces == 0 {
		return false
	}
	if i > 0 && !slices.Contains([]string{";", "{", "}"}, c.signs[i-1].Text) {
		return false
	}
	if s.Kind == lex.Name {
		return !c.program || c.stood || c.signs[i+1].Text != "*"
	}
	return slices.Contains([]string{";", "{", "free", "if", "while"}, s.Text)
}
