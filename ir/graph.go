package ir

import "demotic/api"

// function is a function of right form as operations that point to values, so that edits need no numbers.
type function struct {
	root   *operation
	values []*value // by the numbers that they had when it was read
}

type operation struct {
	data     api.Op // as it was given: only its name and its attributes still say what it is
	operands []*value
	results  []*value
	regions  []region
	succs    []successor
}

type region []*block

type block struct {
	args []*value
	ops  []*operation
}

type successor struct {
	block int
	args  []*value
}

type value struct {
	text  string // its type
	place place
}

// place is where a value is defined: the block of which it is an argument, or the operation of which it is a result, and its index there.
type place struct {
	block *block
	op    *operation
	index int
}

// read turns an operation that is a function of right form into a function.
func read(op api.Op) *function {
	f := &function{}
	f.root = f.readOperation(op)
	// A value may be used before it is defined.
	for _, o := range f.operations() {
		f.link(o)
	}
	return f
}

func (f *function) body() region { return f.root.regions[0] }

func (f *function) readOperation(op api.Op) *operation {
	o := newOperation(op)
	f.values = append(f.values, o.results...)
	o.regions = mapped(op.Regions, f.readRegion)
	return o
}

func (f *function) readRegion(r api.Region) region {
	return mapped(r.Blocks, f.readBlock)
}

func (f *function) readBlock(data api.Block) *block {
	b := &block{}
	b.args = newValues(data.Args, place{block: b})
	f.values = append(f.values, b.args...)
	b.ops = mapped(data.Ops, f.readOperation)
	return b
}

// newOperation returns an operation without regions that does not point to what it uses yet.
func newOperation(op api.Op) *operation {
	o := &operation{data: op}
	o.results = newValues(op.Results, place{op: o})
	return o
}

// newValues returns values of these types that are defined from a place on.
func newValues(texts []string, first place) []*value {
	return mapped(texts, func(text string) *value {
		v := &value{text, first}
		first.index++
		return v
	})
}

// link makes an operation point to the values whose numbers it was given.
func (f *function) link(o *operation) {
	o.operands = mapped(o.data.Operands, f.value)
	o.succs = mapped(o.data.Succs, func(s api.Succ) successor {
		return successor{s.Block, mapped(s.Args, f.value)}
	})
}

func (f *function) value(n int) *value { return f.values[n] }

// mapped returns what the elements of a list become, in new memory.
func mapped[A, B any](l []A, become func(A) B) []B {
	if len(l) == 0 {
		return nil
	}
	m := make([]B, 0, len(l))
	for _, x := range l {
		y := become(x)
		m = append(m, y)
	}
	return m
}
