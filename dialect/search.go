package dialect

import (
	"iter"
	"strings"
)

// definitions gives all operations of a list of dialects and of the core dialects, with their names.
func definitions(l []Dialect) iter.Seq2[string, Def] {
	return func(yield func(string, Def) bool) {
		for _, dialect := range append(Core(), l...) {
			for _, d := range dialect.Ops {
				if !yield(dialect.Name+"."+d.Name, d) {
					return
				}
			}
		}
	}
}

// definition returns the description of the operation with a name. It may share the memory of the list.
func definition(l []Dialect, name string) (Def, bool) {
	prefix, own, _ := strings.Cut(name, ".")
	dialect, isCore := coreDialect(prefix)
	if !isCore {
		dialect, _ = search(l, prefix, nameOfDialect)
	}
	return search(dialect.Ops, own, nameOfDef)
}

// search returns the element of a list that has a name.
func search[E any](l []E, wanted string, name func(E) string) (found E, ok bool) {
	for _, x := range l {
		if name(x) == wanted {
			return x, true
		}
	}
	return found, false
}

// copied returns a description that shares no memory with d.
func copied(d Def) Def {
	d.In = fresh(d.In)
	d.Out = fresh(d.Out)
	d.Attrs = fresh(d.Attrs)
	d.Traits = fresh(d.Traits)
	return d
}

// fresh returns the elements of a list in new memory.
func fresh[E any](l []E) []E {
	m := make([]E, len(l))
	copy(m, l)
	return m
}
