package asm_test

import (
	"fmt"
	"slices"
	"strings"

	"demotic/api"
)

// A second reading of how modules are printed: strings of parts are put together from the inside to the outside.

// typesOf are the types of the values of a function, by their numbers.
func typesOf(f api.Op) []string {
	var l []string
	for _, g := range f.Regions {
		for _, b := range g.Blocks {
			l = append(l, b.Args...)
			for _, o := range b.Ops {
				l = slices.Concat(l, o.Results, typesOf(o))
			}
		}
	}
	return l
}

// style says what values and blocks are called.
type style struct {
	value func(n int) string
	block func(where string, n int) string // where is different for each region of a function
}

func plainStyle() style {
	return style{
		value: func(n int) string { return fmt.Sprint(n) },
		block: func(where string, n int) string { return fmt.Sprint(n) },
	}
}

// texts has the strings of the operations of a function, by what said says of their paths.
type texts struct {
	style
	types []string
	by    map[string]string
}

// functionText returns the string of a function.
func functionText(f api.Op, s style) (string, texts) {
	t := texts{s, typesOf(f), map[string]string{}}
	whole, _ := t.operation(f, []int{}, "", 0)
	return whole, t
}

func moduleText(m api.Module) string {
	var s string
	for _, f := range m.Ops {
		text, _ := functionText(f, plainStyle())
		s += text
	}
	return s
}

// operation returns the string of an operation, and the number of the value behind it. Its path is empty for a function.
func (t texts) operation(o api.Op, path []int, beside string, next int) (string, int) {
	head := strings.Repeat("  ", (len(path)+1)/3)
	if len(o.Results) > 0 {
		head += t.values(numbers(next, len(o.Results))) + " = "
		next += len(o.Results)
	}
	head += fmt.Sprintf("\"%s\"(%s)", o.Name, t.values(o.Operands))
	if len(o.Succs) > 0 {
		head += "[" + t.successors(o.Succs, beside) + "]"
	}
	if len(o.Attrs) > 0 {
		head += " " + attributes(o.Attrs)
	}
	var regions []string
	for i, g := range o.Regions {
		own := slices.Concat(path, []int{i})
		if len(path) == 0 {
			own = nil
		}
		var text string
		text, next = t.region(g, own, next)
		regions = append(regions, "{\n"+text+strings.Repeat("  ", (len(path)+1)/3)+"}")
	}
	if len(regions) > 0 {
		head += " (" + strings.Join(regions, ", ") + ")"
	}
	var operands []string
	for _, n := range o.Operands {
		operands = append(operands, t.types[n])
	}
	whole := fmt.Sprintf("%s : (%s) -> (%s)\n", head, strings.Join(operands, ", "), strings.Join(o.Results, ", "))
	t.by[said(path)] = whole
	return whole, next
}

func numbers(from, n int) []int {
	var l []int
	for i := range n {
		l = append(l, from+i)
	}
	return l
}

func (t texts) values(l []int) string {
	var s []string
	for _, n := range l {
		s = append(s, "%"+t.value(n))
	}
	return strings.Join(s, ", ")
}

func (t texts) successors(l []api.Succ, beside string) string {
	var s []string
	for _, x := range l {
		text := "^" + t.block(beside, x.Block)
		if len(x.Args) > 0 {
			text += "(" + t.values(x.Args) + ")"
		}
		s = append(s, text)
	}
	return strings.Join(s, ", ")
}

func (t texts) region(g api.Region, path []int, next int) (string, int) {
	var s string
	for i, b := range g.Blocks {
		var args []string
		for _, a := range b.Args {
			args = append(args, "%"+t.value(next)+": "+a)
			next++
		}
		s += strings.Repeat("  ", (len(path)+1)/3) + "^" + t.block(said(path), i) + "(" + strings.Join(args, ", ") + "):\n"
		for j, o := range b.Ops {
			var text string
			text, next = t.operation(o, slices.Concat(path, []int{i, j}), said(path), next)
			s += text
		}
	}
	return s, next
}

func attributes(l []api.Attr) string {
	var s []string
	for _, a := range l {
		value := ""
		switch a.Kind {
		case api.Int:
			value = fmt.Sprint(a.Int)
		case api.Text:
			value = `"` + escaped(a.Text) + `"`
		case api.Symbol:
			value = "@" + a.Text
		case api.Type:
			value = a.Text
		case api.Ints:
			value = strings.ReplaceAll(fmt.Sprint(a.Ints), " ", ", ")
		case api.Types:
			value = "(" + strings.Join(a.Texts, ", ") + ")"
		}
		s = append(s, a.Name+" = "+value)
	}
	return "{" + strings.Join(s, ", ") + "}"
}

func escaped(s string) string {
	var b strings.Builder
	for _, c := range []byte(s) {
		switch {
		case c == '"' || c == '\\':
			b.WriteString("\\" + string(rune(c)))
		case c == '\n':
			b.WriteString("\\n")
		case c < 32 || c > 126:
			fmt.Fprintf(&b, "\\x%02x", c)
		default:
			b.WriteByte(c)
		}
	}
	return b.String()
}
