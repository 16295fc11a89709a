package lower

// names is a scope: what its own names mean, and the scope around it, whose names they hide.
type names[T any] struct {
	own    map[string]T
	around *names[T]
}

// within tells a scope without names of its own.
func within[T any](around *names[T]) *names[T] {
	return &names[T]{own: map[string]T{}, around: around}
}

func (n *names[T]) add(name string, meaning T) { n.own[name] = meaning }

// find tells what a name means: a zero, if it means nothing.
func (n *names[T]) find(name string) T {
	for s := n; s != nil; s = s.around {
		if meaning, found := s.own[name]; found {
			return meaning
		}
	}
	var none T
	return none
}
