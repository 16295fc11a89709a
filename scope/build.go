package scope

import "umbral/api"

// roll numbers names, from 0 on, in the order in which they are added.
type roll[K comparable] map[K]int

// add numbers a name, unless most names stand ahead, or it is one of them.
func (r roll[K]) add(name K, most int) api.Errno {
	number := len(r)
	if number >= most {
		return api.ErrMany
	}
	if _, found := r[name]; found {
		return api.ErrTwice
	}
	r[name] = number
	return api.OK
}

// find tells the number of a name, if it was added.
func (r roll[K]) find(name K) (int, bool) {
	number, found := r[name]
	return number, found
}

func (t *Table) addStructs(list []api.Struct) (int, api.Errno) {
	for _, s := range list {
		if err := t.structs.add(s.Name, api.MaxStructs); err != api.OK {
			return s.At, err
		}
	}
	return 0, api.OK
}

// addFields asks for all structs' names: a field may lead to a struct that stands behind its own.
func (t *Table) addFields(list []api.Struct) (int, api.Errno) {
	for owner, s := range list {
		for _, f := range s.Fields {
			if err := t.addField(owner, f); err != api.OK {
				return f.At, err
			}
		}
	}
	return 0, api.OK
}

func (t *Table) addField(owner int, f api.Decl) api.Errno {
	if err := t.fields.add(member{owner, f.Name}, api.MaxFields); err != api.OK {
		return err
	}
	if f.Type == "" {
		return api.ErrType
	}
	target, found := t.Struct(f.Type)
	if !found {
		return api.ErrNone
	}
	t.ends = append(t.ends, api.Field{Owner: owner, Target: target})
	return api.OK
}

func (t *Table) addGlobals(list []api.Decl) (int, api.Errno) {
	pointers, ints := 0, 0
	for _, d := range list {
		kind, err := t.declare(t.globals, d)
		if err != api.OK {
			return d.At, err
		}
		count := &pointers
		if kind == Int {
			count = &ints
		}
		t.vars = append(t.vars, variable{kind, *count})
		*count++
	}
	return 0, api.OK
}

func (t *Table) addProcs(list []api.Proc) (int, api.Errno) {
	for _, q := range list {
		if err := t.procs.add(q.Name, api.MaxProcs); err != api.OK {
			return q.At, err
		}
		if at, err := t.checkFrame(q); err != api.OK {
			return at, err
		}
	}
	return 0, api.OK
}

// checkFrame goes over parameters and locals as over one list. The table keeps none of them.
func (t *Table) checkFrame(q api.Proc) (int, api.Errno) {
	names := roll[string]{}
	for _, list := range [][]api.Decl{q.Params, q.Locals} {
		for _, d := range list {
			if _, err := t.declare(names, d); err != api.OK {
				return d.At, err
			}
		}
	}
	return 0, api.OK
}

// declare adds a variable to the names of its list, and tells its type.
func (t *Table) declare(names roll[string], d api.Decl) (int, api.Errno) {
	if err := names.add(d.Name, api.MaxDecls); err != api.OK {
		return 0, err
	}
	kind, found := t.Type(d.Type)
	if !found {
		return 0, api.ErrNone
	}
	return kind, api.OK
}
