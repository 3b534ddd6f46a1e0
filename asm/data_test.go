package asm_test

import (
	"fmt"
	"math"
	"math/rand/v2"
	"slices"
	"strings"

	"demotic/api"
)

// Data that the tests of several promises use.

// longestName has just MaxName bytes, and longestOp, too.
var (
	longestName = "a" + strings.Repeat("_9z", 20)[:api.MaxName-1]
	longestOp   = strings.Repeat("a", 29) + "." + strings.Repeat("b_9", 10)
)

// example is the module of the chapter's first example, exampleText its string.
const exampleText = `"func.func"() {name = @add, results = (i32)} ({
^0(%0: i32, %1: i32):
  %2 = "arith.add"(%0, %1) : (i32, i32) -> (i32)
  "func.return"(%2) : (i32) -> ()
}) : () -> ()
`

func example() api.Module {
	return api.Module{Ops: []api.Op{{
		Name: "func.func",
		Attrs: []api.Attr{
			{Name: "name", Kind: api.Symbol, Text: "add"},
			{Name: "results", Kind: api.Types, Texts: []string{"i32"}},
		},
		Regions: []api.Region{{Blocks: []api.Block{block(words("i32 i32"),
			op("arith.add", []int{0, 1}, "i32"),
			op("func.return", []int{2}),
		)}}},
	}}}
}

// said is what values look like, with blanks between them.
func said(l ...any) string {
	return strings.TrimSuffix(fmt.Sprintln(l...), "\n")
}

func words(s string) []string { return strings.Fields(s) }

func op(name string, operands []int, results ...string) api.Op {
	return api.Op{Name: name, Operands: operands, Results: results}
}

// around is an operation with regions of one block each.
func around(o api.Op, blocks ...api.Block) api.Op {
	for _, b := range blocks {
		o.Regions = append(o.Regions, api.Region{Blocks: []api.Block{b}})
	}
	return o
}

func block(args []string, ops ...api.Op) api.Block { return api.Block{Args: args, Ops: ops} }

func fn(blocks ...api.Block) api.Op {
	return api.Op{Name: "func.func", Regions: []api.Region{{Blocks: blocks}}}
}

func module(fns ...api.Op) api.Module { return api.Module{Ops: fns} }

// alone is a module of one function with one block, which has an argument for each of ten types.
func alone(ops ...api.Op) api.Module {
	return module(fn(block(words("i1 i8 i32 i64 index mem<4x3xi32> arr<index> !toy.t i8 i8"), ops...)))
}

// noted is an operation with attributes.
func noted(l ...api.Attr) api.Op { return api.Op{Name: "t.noted", Attrs: l} }

// everyByte has each byte once.
func everyByte() string {
	var l []byte
	for b := range 256 {
		l = append(l, byte(b))
	}
	return string(l)
}

// someAttrs are attributes of all kinds. Their names are given later.
func someAttrs() []api.Attr {
	l := []api.Attr{{Kind: api.Ints}, {Kind: api.Ints, Ints: []int64{0}}, {Kind: api.Ints, Ints: []int64{math.MinInt64, -1, 7}}}
	for _, n := range []int64{0, 1, -1, 10, math.MaxInt64, math.MinInt64} {
		l = append(l, api.Attr{Kind: api.Int, Int: n})
	}
	for _, s := range []string{"", "a", "a b", "x\"y", "\\", "\\\"", "\n", "// no comment", "->", "\x00\x7f\xff", "\u00e9", everyByte()} {
		l = append(l, api.Attr{Kind: api.Text, Text: s})
	}
	for _, s := range []string{"f", "i32", "f_1", longestName} {
		l = append(l, api.Attr{Kind: api.Symbol, Text: s})
	}
	for _, s := range someTypes {
		l = append(l, api.Attr{Kind: api.Type, Text: s})
	}
	return append(l, api.Attr{Kind: api.Types}, api.Attr{Kind: api.Types, Texts: someTypes})
}

var someTypes = words("i1 i8 i64 index mem<i8> mem<4x3xi32> mem<0x1000xindex> arr<index> arr<16x16x16xi1> !toy.t !a_1.b_2")

// maker makes modules of the right form from a sequence of numbers.
type maker struct {
	next   func(n int) int // from 0 to n - 1
	budget int             // how many more operations there may be
}

// ranMaker is a maker whose numbers are random.
func ranMaker(seed uint64) *maker {
	r := rand.New(rand.NewPCG(seed, 7))
	return &maker{next: r.IntN, budget: 16}
}

func pick[E any](k *maker, l []E) E { return l[k.next(len(l))] }

func (k *maker) types(most int) []string {
	var l []string
	for range k.next(most + 1) {
		l = append(l, pick(k, someTypes))
	}
	return l
}

func (k *maker) attrs() []api.Attr {
	var l []api.Attr
	for _, name := range []string{"a", "a_0", "b", "name", "results", "z" + longestName[1:]} {
		if k.next(5) == 0 {
			a := pick(k, someAttrs())
			a.Name = name
			l = append(l, a)
		}
	}
	return l
}

func (k *maker) region(depth int) api.Region {
	var r api.Region
	for range 1 + k.next(3) {
		b := block(k.types(3))
		for range k.next(4) {
			if k.budget > 0 {
				k.budget--
				b.Ops = append(b.Ops, k.operation(depth))
			}
		}
		r.Blocks = append(r.Blocks, b)
	}
	return r
}

// operation makes an operation without uses: how many values there are is not known yet.
func (k *maker) operation(depth int) api.Op {
	o := op(pick(k, []string{"t.op", "arith.add", "func.func", "a_1.b_2", longestOp}), nil, k.types(3)...)
	o.Attrs = k.attrs()
	if depth < 4 && k.next(3) == 0 {
		for range 1 + k.next(2) {
			o.Regions = append(o.Regions, k.region(depth+1))
		}
	}
	return o
}

// uses returns up to so many numbers of values.
func (k *maker) uses(most, values int) []int {
	var l []int
	for range k.next(most + 1) {
		if values > 0 {
			l = append(l, k.next(values))
		}
	}
	return l
}

// use makes the operations inside of a region use values.
func (k *maker) use(r api.Region, values int) {
	for _, b := range r.Blocks {
		for i := range b.Ops {
			o := &b.Ops[i]
			o.Operands = k.uses(3, values)
			for range k.next(3) * k.next(2) {
				o.Succs = append(o.Succs, api.Succ{Block: k.next(len(r.Blocks)), Args: k.uses(2, values)})
			}
			for _, inner := range o.Regions {
				k.use(inner, values)
			}
		}
	}
}

func (k *maker) module() api.Module {
	var m api.Module
	for range 1 + k.next(3) {
		f := api.Op{Name: "func.func", Attrs: k.attrs(), Regions: []api.Region{k.region(0)}}
		k.use(f.Regions[0], len(typesOf(f)))
		m.Ops = append(m.Ops, f)
	}
	return m
}

// rightModules are of the right form.
func rightModules() []api.Module {
	empty := noted()
	empty.Succs = []api.Succ{{Block: 1}, {Block: 0, Args: []int{0}}}
	l := []api.Module{{}, example(), alone(), module(fn(block(nil))), module(fn(block(words("i8")), block(nil, empty)))}
	for _, a := range someAttrs() {
		a.Name = "value"
		l = append(l, alone(noted(a)))
	}
	for seed := range uint64(200) {
		l = append(l, ranMaker(seed).module())
	}
	return l
}

// long returns a list with so many times the same.
func long[E any](n int, x E) []E { return slices.Repeat([]E{x}, n) }

// formless modules do not have the right form.
func formless() []api.Module {
	l := []api.Module{
		module(op("func.fun", nil)),
		module(op("func.func", nil)),
		module(fn()),
		module(around(op("func.fun", nil), block(nil))),
		module(around(op("func.func", nil, "i8"), block(nil))),
		module(around(op("func.func", []int{0}), block(words("i8")))),
		module(around(op("func.func", nil), block(nil), block(nil))),
		module(api.Op{Name: "func.func", Regions: fn(block(nil)).Regions, Succs: []api.Succ{{}}}),
		module(fn(long(api.MaxBlocks+1, block(nil))...)),
		module(fn(block(long(api.MaxList+1, "i8")))),
		module(fn(block(words("i65")))),
		module(long(api.MaxOps+1, fn(block(nil)))...),
	}
	for _, o := range []api.Op{
		op("", nil), op("t", nil), op("t.T", nil), op("t.a\"", nil), op(longestOp+"_", nil), op("t.a", nil, "i0"), op("t.a", []int{10}), op("t.a", []int{-1}),
		op("t.a", long(api.MaxList+1, 0)), op("t.a", nil, long(api.MaxList+1, "i8")...), around(op("t.a", nil), long(api.MaxList+1, block(nil))...),
		{Name: "t.a", Regions: []api.Region{{}}}, {Name: "t.a", Succs: []api.Succ{{Block: 1}}}, {Name: "t.a", Succs: []api.Succ{{Args: []int{10}}}},
		{Name: "t.a", Succs: long(api.MaxList+1, api.Succ{})},
		noted(api.Attr{}), noted(api.Attr{Name: "A"}), noted(api.Attr{Name: "a", Kind: 6}), noted(api.Attr{Name: "a", Text: "x"}),
		noted(api.Attr{Name: "b"}, api.Attr{Name: "a"}), noted(api.Attr{Name: "a"}, api.Attr{Name: "a"}),
		noted(api.Attr{Name: "a", Kind: api.Text, Text: strings.Repeat("x", 1001)}),
		noted(api.Attr{Name: "a", Kind: api.Ints, Ints: make([]int64, api.MaxList+1)}),
		noted(api.Attr{Name: "a", Kind: api.Symbol, Text: "F"}), noted(api.Attr{Name: "a", Kind: api.Type, Text: "i65"}),
		deep(api.MaxDepth),
	} {
		l = append(l, alone(o))
	}
	return l
}

// deep is an operation inside of others, so many regions deep.
func deep(n int) api.Op {
	o := op("t.last", nil)
	for range n {
		o = around(op("t.a", nil), block(nil, o))
	}
	return o
}
