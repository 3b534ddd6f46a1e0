package asm

import (
	"slices"

	"demotic/api"
	"demotic/attrs"
)

// operation, and the types that follow, are what was read, with names that are not looked at yet.
type operation struct {
	results  []token
	name     token
	operands []token
	succs    []successor
	attrs    []attribute
	regions  [][]block
	takes    []string // the types of the operands
	gives    []string // the types of the results
}

type successor struct {
	block token
	args  []token
}

type attribute struct {
	name  token
	value string
}

type block struct {
	name token
	args []argument
	ops  []operation
}

type argument struct {
	name token
	text string // of its type
}

// value is what the name of a value means.
type value struct {
	number int
	text   string // of its type
}

// names are those of the values of a function.
type names map[string]value

// function returns a function that was read.
func function(o operation) api.Op {
	n := names{}
	n.enter(o)
	return n.operation(o, nil)
}

// define gives a name its meaning. It must not have one yet.
func define[M any](known map[string]M, name token, meaning M) {
	if _, twice := known[name.text]; twice {
		giveUp(name)
	}
	known[name.text] = meaning
}

// look returns what a name means.
func look[M any](known map[string]M, name token) M {
	meaning, defined := known[name.text]
	if !defined {
		giveUp(name)
	}
	return meaning
}

// enter defines the results of an operation, and all values inside of it, in the order of their numbers.
func (n names) enter(o operation) {
	if len(o.results) != len(o.gives) {
		giveUp(o.name)
	}
	for i, name := range o.results {
		define(n, name, value{len(n), o.gives[i]})
	}
	for _, b := range slices.Concat(o.regions...) {
		for _, a := range b.args {
			define(n, a.name, value{len(n), a.text})
		}
		for _, inner := range b.ops {
			n.enter(inner)
		}
	}
}

// operation returns an operation that stands beside these blocks.
func (n names) operation(o operation, blocks map[string]int) api.Op {
	op := api.Op{Name: o.name.text[1 : len(o.name.text)-1], Results: o.gives}
	var takes []string
	for _, name := range o.operands {
		v := look(n, name)
		op.Operands = append(op.Operands, v.number)
		takes = append(takes, v.text)
	}
	if !slices.Equal(takes, o.takes) {
		giveUp(o.name)
	}
	for _, s := range o.succs {
		op.Succs = append(op.Succs, n.successor(s, blocks))
	}
	for _, a := range o.attrs {
		op.Attrs = append(op.Attrs, a.read())
	}
	for _, g := range o.regions {
		op.Regions = append(op.Regions, n.region(g))
	}
	return op
}

func (n names) successor(s successor, blocks map[string]int) api.Succ {
	to := api.Succ{Block: look(blocks, s.block)}
	for _, name := range s.args {
		to.Args = append(to.Args, look(n, name).number)
	}
	return to
}

// read returns an attribute. Its name and its value were looked at, but a list may be too long.
func (a attribute) read() api.Attr {
	right, e := attrs.Read(a.name.text, a.value)
	if e != api.OK {
		giveUp(a.name)
	}
	return right
}

func (n names) region(l []block) api.Region {
	var g api.Region
	blocks := map[string]int{}
	for i, b := range l {
		define(blocks, b.name, i)
	}
	for _, b := range l {
		var whole api.Block
		for _, a := range b.args {
			whole.Args = append(whole.Args, a.text)
		}
		for _, o := range b.ops {
			whole.Ops = append(whole.Ops, n.operation(o, blocks))
		}
		g.Blocks = append(g.Blocks, whole)
	}
	return g
}
