package scope_test

import (
	"reflect"
	"slices"
	"strconv"
	"testing"

	"umbral/api"
	"umbral/scope"
)

// fault is what is wrong, and where.
type fault struct {
	at  int
	err api.Errno
}

// judge tells all that is wrong, in the chapter's order, by going over the lists that stand ahead.
type judge struct {
	structs []string
	found   []fault
}

func (j *judge) hold(wrong bool, at int, err api.Errno) {
	if wrong {
		j.found = append(j.found, fault{at, err})
	}
}

func structNames(l []api.Struct) []string {
	var names []string
	for _, s := range l {
		names = append(names, s.Name)
	}
	return names
}

func declNames(l []api.Decl) []string {
	var names []string
	for _, d := range l {
		names = append(names, d.Name)
	}
	return names
}

func procNames(l []api.Proc) []string {
	var names []string
	for _, q := range l {
		names = append(names, q.Name)
	}
	return names
}

// faults are all that is wrong with p: the first one is Build's.
func faults(p api.Program) []fault {
	j := &judge{structs: structNames(p.Structs)}
	for i, s := range p.Structs {
		j.hold(i >= 8, s.At, api.ErrMany)
		j.hold(slices.Contains(j.structs[:i], s.Name), s.At, api.ErrTwice)
	}
	count := 0
	for _, s := range p.Structs {
		for i, f := range s.Fields {
			j.hold(count >= 8, f.At, api.ErrMany)
			j.hold(slices.Contains(declNames(s.Fields[:i]), f.Name), f.At, api.ErrTwice)
			j.hold(f.Type == "", f.At, api.ErrType)
			j.hold(!slices.Contains(j.structs, f.Type), f.At, api.ErrNone)
			count++
		}
	}
	j.decls(p.Globals)
	for i, q := range p.Procs {
		j.hold(i >= 16, q.At, api.ErrMany)
		j.hold(slices.Contains(procNames(p.Procs[:i]), q.Name), q.At, api.ErrTwice)
		j.decls(slices.Concat(q.Params, q.Locals))
	}
	return j.found
}

func (j *judge) decls(l []api.Decl) {
	for i, d := range l {
		j.hold(i >= 16, d.At, api.ErrMany)
		j.hold(slices.Contains(declNames(l[:i]), d.Name), d.At, api.ErrTwice)
		j.hold(d.Type != "" && !slices.Contains(j.structs, d.Type), d.At, api.ErrNone)
	}
}

// named is what a name leads to: zeros, if it leads to nothing.
type named struct {
	kind, number int
	found        bool
}

func namedAt(names []string, name string) named {
	if i := slices.Index(names, name); i >= 0 {
		return named{number: i, found: true}
	}
	return named{}
}

// wantType is what Type tells of a right program.
func wantType(p api.Program, name string) named {
	if name == "" {
		return named{number: -1, found: true}
	}
	return namedAt(structNames(p.Structs), name)
}

// wantField counts all fields that stand ahead.
func wantField(p api.Program, owner int, name string) named {
	number := 0
	for i, s := range p.Structs {
		for _, f := range s.Fields {
			if i == owner && f.Name == name {
				return named{number: number, found: true}
			}
			number++
		}
	}
	return named{}
}

func wantFields(p api.Program) []api.Field {
	var all []api.Field
	for i, s := range p.Structs {
		for _, f := range s.Fields {
			all = append(all, api.Field{Owner: i, Target: slices.Index(structNames(p.Structs), f.Type)})
		}
	}
	return all
}

// wantGlobal counts those that stand ahead, and are pointers as it is, or are none as it is.
func wantGlobal(p api.Program, name string) named {
	i := slices.Index(declNames(p.Globals), name)
	if i < 0 {
		return named{}
	}
	got := named{kind: wantType(p, p.Globals[i].Type).number, found: true}
	for _, d := range p.Globals[:i] {
		if (d.Type == "") == (p.Globals[i].Type == "") {
			got.number++
		}
	}
	return got
}

// someNames are names that few programs have, ones that no text could have among them.
func someNames() []string {
	return []string{"", "a", "t", "x", "none", "int", "main", "A", "a ", "\x00", "\xff", "0a", "1", "a\x00", "a_name_of_more_than_16_bytes"}
}

// namesOf are all names and Types of p, and some that it may not have.
func namesOf(p api.Program) []string {
	names := slices.Concat(someNames(), structNames(p.Structs), declNames(p.Globals), procNames(p.Procs))
	lists := [][]api.Decl{p.Globals}
	for _, s := range p.Structs {
		lists = append(lists, s.Fields)
	}
	for _, q := range p.Procs {
		lists = append(lists, q.Params, q.Locals)
	}
	for _, l := range lists {
		names = append(names, declNames(l)...)
		for _, d := range l {
			names = append(names, d.Type)
		}
	}
	slices.Sort(names)
	return slices.Compact(names)
}

func owners() []int {
	return []int{0, 1, 2, 3, 4, 5, 6, 7, 8, 9, scope.Int, -2, -8, 100, 1 << 32, -1 << 63, 1<<63 - 1}
}

// tell is all that a table tells of these names.
type tell struct {
	structs int
	fields  []api.Field
	of      map[string]named
}

func told(t *scope.Table, names []string) tell {
	all := tell{structs: t.Structs(), fields: slices.Clip(slices.Clone(t.Fields())), of: map[string]named{}}
	for _, name := range names {
		var n named
		n.number, n.found = t.Struct(name)
		all.of["Struct "+name] = n
		n.number, n.found = t.Type(name)
		all.of["Type "+name] = n
		n.number, n.found = t.Proc(name)
		all.of["Proc "+name] = n
		for _, owner := range owners() {
			n.number, n.found = t.Field(owner, name)
			all.of["Field "+strconv.Itoa(owner)+" "+name] = n
		}
		n.kind, n.number, n.found = t.Global(name)
		all.of["Global "+name] = n
	}
	return all
}

// wantTold is what the table of p, a right program, tells of these names.
func wantTold(p api.Program, names []string) tell {
	all := tell{structs: len(p.Structs), fields: wantFields(p), of: map[string]named{}}
	for _, name := range names {
		all.of["Struct "+name] = namedAt(structNames(p.Structs), name)
		all.of["Type "+name] = wantType(p, name)
		all.of["Proc "+name] = namedAt(procNames(p.Procs), name)
		for _, owner := range owners() {
			all.of["Field "+strconv.Itoa(owner)+" "+name] = wantField(p, owner, name)
		}
		all.of["Global "+name] = wantGlobal(p, name)
	}
	return all
}

// nothing is what a table that no call made tells of these names.
func nothing(names []string) tell {
	all := wantTold(api.Program{}, names)
	for what := range all.of {
		all.of[what] = named{}
	}
	return tell{of: all.of}
}

// compare holds all that is told against what is to be told.
func compare(t *testing.T, what string, got, want tell) {
	t.Helper()
	if got.structs != want.structs {
		t.Errorf("%s: Structs tells %d, want %d", what, got.structs, want.structs)
	}
	if !slices.Equal(got.fields, want.fields) {
		t.Errorf("%s: Fields tells %v, want %v", what, got.fields, want.fields)
	}
	if len(got.of) != len(want.of) {
		t.Errorf("%s: %d answers, want %d", what, len(got.of), len(want.of))
	}
	for call, n := range want.of {
		if got.of[call] != n {
			t.Errorf("%s: %q tells %v, want %v", what, call, got.of[call], n)
		}
	}
}

// holdBuild holds Build of p, and all that its table tells, against the model; the table is nil, if p is wrong.
func holdBuild(t *testing.T, what string, p api.Program) (*scope.Table, fault) {
	t.Helper()
	want := fault{0, api.OK}
	if all := faults(p); len(all) > 0 {
		want = all[0]
	}
	before := twin(p)
	table, at, err := scope.Build(p)
	got := fault{at, err}
	if got != want {
		t.Errorf("Build of %s: %v, want %v", what, got, want)
	}
	if (table != nil) != (want.err == api.OK) {
		t.Errorf("Build of %s: is there a table: %v, beside %v", what, table != nil, want.err)
	}
	if table != nil && want.err == api.OK {
		compare(t, what, told(table, namesOf(p)), wantTold(p, namesOf(p)))
	}
	if !untouched(p, before) {
		t.Errorf("Build of %s changes it", what)
	}
	return table, got
}

// twin is of its own memory, as x is in all, the spare room of its lists too.
func twin[T any](x T) T {
	var y T
	twinTo(reflect.ValueOf(&y).Elem(), reflect.ValueOf(&x).Elem())
	return y
}

func twinTo(to, from reflect.Value) {
	switch from.Kind() {
	case reflect.Struct:
		for i := range from.NumField() {
			twinTo(to.Field(i), from.Field(i))
		}
	case reflect.Slice:
		if from.IsNil() {
			return
		}
		room := from.Slice(0, from.Cap())
		to.Set(reflect.MakeSlice(from.Type(), room.Len(), room.Len()))
		for i := range room.Len() {
			twinTo(to.Index(i), room.Index(i))
		}
		to.Set(to.Slice(0, from.Len()))
	default:
		to.Set(from)
	}
}

// untouched tells whether a and b are alike, in the spare room of their lists too.
func untouched[T any](a, b T) bool { return alike(reflect.ValueOf(a), reflect.ValueOf(b)) }

func alike(a, b reflect.Value) bool {
	switch a.Kind() {
	case reflect.Struct:
		for i := range a.NumField() {
			if !alike(a.Field(i), b.Field(i)) {
				return false
			}
		}
		return true
	case reflect.Slice:
		if a.Len() != b.Len() || a.Cap() != b.Cap() || a.IsNil() != b.IsNil() {
			return false
		}
		a, b = a.Slice(0, a.Cap()), b.Slice(0, b.Cap())
		for i := range a.Len() {
			if !alike(a.Index(i), b.Index(i)) {
				return false
			}
		}
		return true
	}
	return a.Interface() == b.Interface()
}
