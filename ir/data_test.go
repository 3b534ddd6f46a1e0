package ir_test

import (
	"fmt"
	"math/rand/v2"
	"reflect"
	"slices"
	"strings"

	"demotic/api"
)

// Data and a second reading of the definitions, which the tests of several promises use.

// longestName has just MaxName bytes.
var longestName = strings.Repeat("a", 29) + "." + strings.Repeat("b_9", 10)

func op(name string, operands []int, results ...string) api.Op {
	return api.Op{Name: name, Operands: operands, Results: results}
}

// around is an operation with regions of one block each.
func around(o api.Op, blocks ...api.Block) api.Op {
	for _, b := range blocks {
		o.Regions = append(o.Regions, api.Region{Blocks: []api.Block{b}})
	}
	return o
}

func block(args []string, ops ...api.Op) api.Block { return api.Block{Args: args, Ops: ops} }

func fn(blocks ...api.Block) api.Op {
	return api.Op{Name: "func.func", Regions: []api.Region{{Blocks: blocks}}}
}

func module(fns ...api.Op) api.Module { return api.Module{Ops: fns} }

// alone is a module of one function with one block.
func alone(ops ...api.Op) api.Module { return module(fn(block(nil, ops...))) }

// example is the function of the chapter's first example.
func example() api.Module {
	inner := block([]string{"i3"}, op("t.inner", []int{3, 0}))
	return module(fn(block([]string{"i10", "i1"},
		around(op("t.outer", []int{1}, "i2"), inner),
		op("t.last", []int{0}, "i4"),
		op("t.end", []int{4, 1}))))
}

// said is what values look like, with blanks between them.
func said(l ...any) string {
	return strings.TrimSuffix(fmt.Sprintln(l...), "\n")
}

// line is what a second reading of the definitions has for a block or an operation: the text of a function is a list of them.
type line struct {
	depth  int    // of what stands inside of what
	path   []int  // of the operation, or of the block's region
	block  int    // -1 for an operation
	what   string // all but the values
	first  int    // the number of the first value that is defined
	defs   []string
	uses   [][]int
	region int // how many blocks the region has
	beside int // how many operations the block has
}

func linesOf(f api.Op) []line {
	l := regionLines(f.Regions[0], 0, nil)
	next := 0
	for i := range l {
		l[i].first = next
		next += len(l[i].defs)
	}
	return l
}

func regionLines(r api.Region, depth int, path []int) []line {
	var l []line
	for n, b := range r.Blocks {
		l = append(l, line{depth: depth, path: path, block: n, what: whatBlock(path, n), defs: b.Args, region: len(r.Blocks)})
		for i, o := range b.Ops {
			own := slices.Concat(path, []int{n, i})
			l = append(l, line{depth: depth + 1, path: own, block: -1, what: whatOf(o), defs: o.Results, uses: usesOf(o), region: len(r.Blocks), beside: len(b.Ops)})
			for k, inner := range o.Regions {
				l = append(l, regionLines(inner, depth+2, slices.Concat(own, []int{k}))...)
			}
		}
	}
	return l
}

// whatBlock says which block a line is of, in a way that does not depend on what stands elsewhere.
func whatBlock(path []int, n int) string {
	if len(path) == 0 {
		return said("block", n)
	}
	return said("region", path[len(path)-1], "block", n)
}

func whatOf(o api.Op) string {
	what := fmt.Sprintf("%s %v %d", o.Name, o.Attrs, len(o.Regions))
	for _, s := range o.Succs {
		what += fmt.Sprint(" ^", s.Block)
	}
	return what
}

func usesOf(o api.Op) [][]int {
	l := [][]int{o.Operands}
	for _, s := range o.Succs {
		l = append(l, s.Args)
	}
	return l
}

// operationLines are those of operations.
func operationLines(f api.Op) []line {
	return slices.DeleteFunc(linesOf(f), func(l line) bool { return l.block >= 0 })
}

// typesOf are the types of the values of a function, by their numbers.
func typesOf(f api.Op) []string {
	var types []string
	for _, l := range linesOf(f) {
		types = append(types, l.defs...)
	}
	return types
}

// plain are the lines of a function with the types of values for their numbers. As all values have different types, what they say does not depend on numbers.
func plain(f api.Op) []string {
	types := typesOf(f)
	var all []string
	for _, l := range linesOf(f) {
		all = append(all, l.plain(types, same))
	}
	return all
}

func same(s string) string { return s }

// plain is a line with types for the numbers of values, and others for the types of those that are used.
func (l line) plain(types []string, other func(string) string) string {
	s := said(l.depth, l.what, l.defs)
	for _, use := range l.uses {
		s += " ("
		for _, n := range use {
			s += " " + other(types[n])
		}
		s += " )"
	}
	return s
}

// at returns the index of the line of an operation with a path, and that of the first line behind all that is inside of it.
func at(f api.Op, path []int) (from, to int) {
	l := linesOf(f)
	from = slices.IndexFunc(l, func(x line) bool { return x.block < 0 && slices.Equal(x.path, path) })
	to = from + 1
	for to < len(l) && l[to].depth > l[from].depth {
		to++
	}
	return from, to
}

// maker makes modules from a sequence of numbers.
type maker struct {
	next   func(n int) int // from 0 to n - 1
	types  int
	names  int
	budget int // how many more operations there may be
}

// ranMaker is a maker whose numbers are random.
func ranMaker(seed uint64) *maker {
	r := rand.New(rand.NewPCG(seed, 3))
	return &maker{next: r.IntN, budget: 25}
}

// types returns up to n types, none of which was there before.
func (k *maker) newTypes(n int) []string {
	var l []string
	for range k.next(n + 1) {
		k.types++
		l = append(l, fmt.Sprintf("!v.x%d", k.types))
	}
	return l
}

func (k *maker) region(depth int) api.Region {
	var r api.Region
	for range 1 + k.next(3) {
		b := api.Block{Args: k.newTypes(2)}
		for range k.next(5) {
			if k.budget > 0 {
				k.budget--
				b.Ops = append(b.Ops, k.operation(depth))
			}
		}
		r.Blocks = append(r.Blocks, b)
	}
	return r
}

// operation makes an operation without uses: how many values there are is not known yet.
func (k *maker) operation(depth int) api.Op {
	k.names++
	o := op(fmt.Sprintf("t.op%d", k.names), nil, k.newTypes(3)...)
	if k.next(3) == 0 {
		o.Attrs = []api.Attr{{Name: "a", Int: int64(k.names)}, {Name: "b", Kind: api.Types, Texts: []string{"i1", "i2"}}, {Name: "c", Kind: api.Ints, Ints: []int64{1, 2}}}
	}
	if depth < 4 && k.next(3) == 0 {
		for range 1 + k.next(2) {
			o.Regions = append(o.Regions, k.region(depth+1))
		}
	}
	return o
}

// uses returns up to n numbers of values.
func (k *maker) uses(n, values int) []int {
	var l []int
	for range k.next(n + 1) {
		if values > 0 {
			l = append(l, k.next(values))
		}
	}
	return l
}

// use makes the operations inside of a region use values.
func (k *maker) use(r api.Region, values int) {
	for _, b := range r.Blocks {
		for i := range b.Ops {
			o := &b.Ops[i]
			k.give(o, len(r.Blocks), values)
			for _, inner := range o.Regions {
				k.use(inner, values)
			}
		}
	}
}

// give gives an operation in a region of so many blocks operands and successors.
func (k *maker) give(o *api.Op, blocks, values int) {
	o.Operands = k.uses(3, values)
	for range k.next(3) * k.next(2) {
		o.Succs = append(o.Succs, api.Succ{Block: k.next(blocks), Args: k.uses(2, values)})
	}
}

func (k *maker) module() api.Module {
	var m api.Module
	for range 1 + k.next(3) {
		f := api.Op{Name: "func.func", Attrs: []api.Attr{{Name: "name", Kind: api.Symbol, Text: "f"}}, Regions: []api.Region{k.region(0)}}
		k.use(f.Regions[0], len(typesOf(f)))
		m.Ops = append(m.Ops, f)
	}
	return m
}

// inserted makes an operation that can be inserted in a region of so many blocks.
func (k *maker) inserted(blocks, values int) api.Op {
	o := op("new.one", nil, k.newTypes(3)...)
	k.give(&o, blocks, values)
	return o
}

// rightModules are of the right form, and all values of each of their functions have different types.
func rightModules() []api.Module {
	l := []api.Module{{}, alone(), example(), module(fn(block([]string{"i1", "i2"}), block(nil), block([]string{"i3"})))}
	for seed := range uint64(150) {
		l = append(l, ranMaker(seed).module())
	}
	return l
}

// deep returns a copy that shares no memory. What lies beyond the lengths of its slices is junk if room is not 0.
func deep[T any](x T, room int) T {
	return copyOf(reflect.ValueOf(x), room).Interface().(T)
}

func copyOf(v reflect.Value, room int) reflect.Value {
	c := reflect.New(v.Type()).Elem()
	switch v.Kind() {
	case reflect.Slice:
		if v.IsNil() {
			return c
		}
		c = reflect.MakeSlice(v.Type(), v.Len()+room, v.Len()+room)
		for i := range c.Len() {
			x := reflect.New(v.Type().Elem()).Elem()
			if i < v.Len() {
				x = copyOf(v.Index(i), room)
			} else {
				spoil(x)
			}
			c.Index(i).Set(x)
		}
		return c.Slice(0, v.Len())
	case reflect.Struct:
		for i := range v.NumField() {
			c.Field(i).Set(copyOf(v.Field(i), room))
		}
		return c
	}
	c.Set(v)
	return c
}

// spoil changes all the memory of a value, and what lies beyond the lengths of its slices.
func spoil(v reflect.Value) {
	switch v.Kind() {
	case reflect.Slice:
		for i := range v.Cap() {
			spoil(v.Slice(0, v.Cap()).Index(i))
		}
	case reflect.Struct:
		for i := range v.NumField() {
			spoil(v.Field(i))
		}
	case reflect.String:
		v.SetString("spoilt")
	case reflect.Int, reflect.Int64:
		v.SetInt(77)
	}
}

// whole is what a value looks like, with what lies beyond the lengths of its slices.
func whole(v reflect.Value) string {
	var b strings.Builder
	writeWhole(&b, v)
	return b.String()
}

func writeWhole(b *strings.Builder, v reflect.Value) {
	switch v.Kind() {
	case reflect.Slice:
		fmt.Fprint(b, v.Len(), "[")
		for i := range v.Cap() {
			writeWhole(b, v.Slice(0, v.Cap()).Index(i))
		}
		b.WriteString("]")
	case reflect.Struct:
		for i := range v.NumField() {
			writeWhole(b, v.Field(i))
		}
	default:
		fmt.Fprint(b, v.Interface(), " ")
	}
}

// span is the memory of a slice, up to its capacity.
type span struct{ from, to uintptr }

func spans(v reflect.Value) []span {
	var l []span
	switch v.Kind() {
	case reflect.Slice:
		if v.Cap() > 0 {
			l = append(l, span{v.Pointer(), v.Pointer() + uintptr(v.Cap())*v.Type().Elem().Size()})
		}
		for i := range v.Len() {
			l = append(l, spans(v.Index(i))...)
		}
	case reflect.Struct:
		for i := range v.NumField() {
			l = append(l, spans(v.Field(i))...)
		}
	}
	return l
}
