package verify

import (
	"demotic/api"
	"demotic/dialect"
	"demotic/ir"
	"demotic/types"
)

// checker has what the operations of a module are held against.
type checker struct {
	module      api.Module
	definitions map[string]dialect.Def // by the names of the operations
	foreign     map[string]bool        // the foreign types that dialects have
	functions   map[string]int         // by its name, the first function that has it
	rows        map[string]row
}

// opened returns what a module of the right form is held against, or ErrDialect or ErrForm.
func opened(m api.Module, l []dialect.Dialect) (*checker, api.Errno) {
	e := dialect.Check(l)
	if e != api.OK {
		return nil, e
	}
	e = ir.Check(m)
	if e != api.OK {
		return nil, e
	}
	c := &checker{
		module:      m,
		definitions: map[string]dialect.Def{},
		foreign:     map[string]bool{},
		functions:   map[string]int{},
		rows:        rows(),
	}
	c.know(dialect.Core()...)
	c.know(l...)
	for f := range m.Ops {
		c.name(f)
	}
	return c, api.OK
}

// know adds what dialects have.
func (c *checker) know(l ...dialect.Dialect) {
	for _, d := range l {
		for _, t := range d.Types {
			c.foreign["!"+d.Name+"."+t] = true
		}
		for _, op := range d.Ops {
			c.definitions[d.Name+"."+op.Name] = op
		}
	}
}

// name adds the name of a function, if it has one, and none before it has it.
func (c *checker) name(f int) {
	a, hasName := attribute(&c.module.Ops[f], "name", api.Symbol)
	if !hasName {
		return
	}
	_, isTaken := c.functions[a.Text]
	if !isTaken {
		c.functions[a.Text] = f
	}
}

// first returns the first fault of the functions from one on up to behind; the zero value if they are right.
func (c *checker) first(from, behind int) Fault {
	var found Fault
	c.visit(from, behind, func(err error) bool {
		found = faultOf(err)
		return false
	})
	return found
}

// visit hands on the error of each operation that has one, until take has had enough.
func (c *checker) visit(from, behind int, take func(error) bool) {
	for s := range c.sites(from, behind) {
		e := c.errorOf(s)
		if e != api.OK && !take(located{problem(e), s.function.number, s.path}) {
			return
		}
	}
}

// errorOf returns the first error of an operation, in the order of the chapter's table, or OK.
func (c *checker) errorOf(s *site) api.Errno {
	d, isKnown := c.definitions[s.op.Name]
	if !isKnown || s.op.Name == functionName && !s.isFunction() {
		return api.ErrOp
	}
	e := c.errorOfTypes(s, d)
	switch {
	case e != api.OK:
		return e
	case !s.seesAll():
		return api.ErrOrder
	case !s.endsWell(d):
		return api.ErrEnd
	case !c.isNamedWell(s):
		return api.ErrSymbol
	}
	return api.OK
}

// errorOfTypes returns ErrShape, ErrTypes or OK.
func (c *checker) errorOfTypes(s *site, d dialect.Def) api.Errno {
	e := dialect.Fits(d, *s.op)
	if e == api.OK {
		e = dialect.Match(d, s.in, s.op.Results)
	}
	// The rows rely on the numbers that the description names.
	if e == api.ErrShape {
		return e
	}
	e = shapeFirst(e, s.errorOfSuccessors())
	look, hasRow := c.rows[s.op.Name]
	if hasRow {
		e = shapeFirst(e, look(s))
	}
	if e == api.OK && !c.hasTypes(s) {
		return api.ErrTypes
	}
	return e
}

// hasTypes tells whether dialects have all foreign types of an operation.
func (c *checker) hasTypes(s *site) bool {
	for t := range s.types() {
		kind, _ := types.KindOf(t)
		if kind == types.Foreign && !c.foreign[t] {
			return false
		}
	}
	return true
}

// isNamedWell tells whether a function has its name alone among those before it, and whether a call has the types of what it calls.
func (c *checker) isNamedWell(s *site) bool {
	switch s.op.Name {
	case functionName:
		return c.functions[s.symbol("name")] == s.function.number
	case callName:
		f, ok := c.functions[s.symbol("callee")]
		if !ok {
			return false
		}
		called := &c.module.Ops[f]
		in, out := entryTypes(called, 0), resultTypes(called)
		return compared(s.in, in...) == api.OK && compared(s.op.Results, out...) == api.OK
	}
	return true
}
