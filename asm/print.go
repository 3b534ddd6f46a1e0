package asm

import (
	"strconv"
	"strings"

	"demotic/api"
	"demotic/attrs"
	"demotic/types"
)

// printer writes operations of a function, in the order of their text.
type printer struct {
	text  strings.Builder
	most  int      // with more bytes than these there is no need to go on
	types []string // of the values of the function
	next  int      // the number of the value that is defined next
}

// put writes parts of a line.
func (p *printer) put(parts ...string) {
	for _, s := range parts {
		p.text.WriteString(s)
	}
}

// operation writes an operation that stands some regions deep, with all that is inside of it.
func (p *printer) operation(op api.Op, deep int) {
	var write func(op api.Op, deep int)
	region := func(g api.Region, deep int) {
		p.put("{\n")
		for i, b := range g.Blocks {
			p.put(blanks(deep), blockName(i), "(", joined(b.Args, p.argument), "):\n")
			for _, inner := range b.Ops {
				write(inner, deep+1)
			}
		}
		p.put(blanks(deep), "}")
	}
	write = func(op api.Op, deep int) {
		if p.text.Len() > p.most {
			return
		}
		p.put(blanks(deep))
		p.head(op)
		for i, g := range op.Regions {
			if i == 0 {
				p.put(" (")
			} else {
				p.put(", ")
			}
			region(g, deep)
		}
		if len(op.Regions) > 0 {
			p.put(")")
		}
		p.put(" : ", p.typesOf(op.Operands), " -> ", typeList(op.Results), "\n")
	}
	write(op, deep)
}

// head writes what comes before the regions of an operation.
func (p *printer) head(op api.Op) {
	if len(op.Results) > 0 {
		p.put(joined(op.Results, p.define), " = ")
	}
	p.put(`"`, op.Name, `"(`, joined(op.Operands, valueName), ")")
	if len(op.Succs) > 0 {
		p.put("[", joined(op.Succs, successorText), "]")
	}
	if len(op.Attrs) > 0 {
		p.put(" {", joined(op.Attrs, attributeText), "}")
	}
}

// define returns the name of a new value, whatever its type is.
func (p *printer) define(string) string {
	name := valueName(p.next)
	p.next++
	return name
}

// argument returns how a block's argument of a type is defined.
func (p *printer) argument(t string) string {
	return p.define(t) + ": " + t
}

// typesOf returns the list of the types of values.
func (p *printer) typesOf(values []int) string {
	var l []string
	for _, n := range values {
		l = append(l, p.types[n])
	}
	return typeList(l)
}

func typeList(l []string) string {
	list, _ := types.Join(l)
	return list
}

// attributeText writes an attribute by itself: of all those of an operation attrs.Print makes no string that is too large.
func attributeText(a api.Attr) string {
	value, _ := attrs.Value(a)
	return a.Name + " = " + value
}

func successorText(s api.Succ) string {
	text := blockName(s.Block)
	if len(s.Args) > 0 {
		text += "(" + joined(s.Args, valueName) + ")"
	}
	return text
}

func valueName(n int) string { return "%" + strconv.Itoa(n) }

func blockName(n int) string { return "^" + strconv.Itoa(n) }

func blanks(deep int) string { return strings.Repeat("  ", deep) }

// joined returns the strings of a list's elements, with commas between them.
func joined[T any](l []T, text func(T) string) string {
	var parts []string
	for _, x := range l {
		parts = append(parts, text(x))
	}
	return strings.Join(parts, ", ")
}
