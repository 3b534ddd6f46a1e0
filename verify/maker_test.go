package verify_test

import (
	"fmt"
	"math"
	"math/rand/v2"
	"slices"

	"demotic/api"
	"demotic/types"
)

// maker makes right modules, and changes them, by a sequence of numbers.
type maker struct {
	next      func(n int) int // from 0 to n - 1
	budget    int             // how many more operations there may be, but for those that have to be
	functions []signature
	values    int // how many values the function has up to now
}

// ranMaker is a maker whose numbers are random.
func ranMaker(seed uint64) *maker {
	r := rand.New(rand.NewPCG(seed, 6))
	return &maker{next: r.IntN, budget: 14}
}

type signature struct{ in, out []string }

// known is a value that may be used.
type known struct {
	number int
	text   string
}

// scope is the end of a block: its operations, and the values that are visible behind them.
type scope struct {
	ops    []api.Op
	values []known
}

func pick[E any](k *maker, l []E) E { return l[k.next(len(l))] }

var someNumbers = words("i1 i8 i32 i64 index")

var someTypes = append(words("mem<4xi8> mem<index> mem<2x3xi32> arr<4xi8> arr<i1> arr<2x2xindex> !toy.t !zoo.u"), someNumbers...)

func (k *maker) types(most int) []string {
	var l []string
	for range k.next(most + 1) {
		l = append(l, pick(k, someTypes))
	}
	return l
}

// define gives numbers to values of these types.
func (k *maker) define(texts []string) []known {
	var l []known
	for _, t := range texts {
		l = append(l, known{k.values, t})
		k.values++
	}
	return l
}

// add puts an operation without regions behind others.
func (k *maker) add(s *scope, name string, operands []int, results []string, attrs ...api.Attr) {
	s.ops = append(s.ops, api.Op{Name: name, Operands: operands, Results: results, Attrs: attrs})
	s.values = append(s.values, k.define(results)...)
}

// value returns a value of a type, which it may have to make first.
func (k *maker) value(s *scope, t string) int {
	var l []int
	for _, v := range s.values {
		if v.text == t {
			l = append(l, v.number)
		}
	}
	if len(l) > 0 && k.next(8) > 0 {
		return pick(k, l)
	}
	kind, _ := types.KindOf(t)
	switch kind {
	case types.Memory:
		k.add(s, "mem.alloc", nil, []string{t})
	case types.Array:
		element, _ := types.Element(t)
		k.add(s, "arr.splat", []int{k.value(s, element)}, []string{t})
	case types.Foreign:
		k.add(s, "zoo.ant", nil, []string{t})
	default:
		low, high, _ := types.Range(t)
		n := pick(k, []int64{low, high, 0, -1})
		k.add(s, "arith.const", nil, []string{t}, api.Attr{Name: "value", Int: n})
	}
	return s.values[len(s.values)-1].number
}

// valuesOf returns a value of each of these types.
func (k *maker) valuesOf(s *scope, texts ...string) []int {
	var l []int
	for _, t := range texts {
		l = append(l, k.value(s, t))
	}
	return l
}

func (k *maker) module() api.Module {
	for range 1 + k.next(3) {
		k.functions = append(k.functions, signature{k.types(4), k.types(2)})
	}
	var m api.Module
	for f, s := range k.functions {
		k.values = 0
		m.Ops = append(m.Ops, api.Op{
			Name:    "func.func",
			Attrs:   []api.Attr{attribute("name", fmt.Sprint("@f", f)), {Name: "results", Kind: api.Types, Texts: s.out}},
			Regions: []api.Region{k.body(s)},
		})
	}
	return m
}

// body makes blocks that use the values of the entry and their own ones.
func (k *maker) body(f signature) api.Region {
	args := [][]string{f.in}
	for range max(k.next(7)-3, 0) {
		args = append(args, k.types(2))
	}
	var r api.Region
	var first []known
	for b := range args {
		s := &scope{values: slices.Clone(first)}
		s.values = append(s.values, k.define(args[b])...)
		k.fill(s, 0)
		k.end(s, f.out, args)
		if b == 0 {
			first = s.values
		}
		r.Blocks = append(r.Blocks, api.Block{Args: args[b], Ops: s.ops})
	}
	return r
}

// end ends a block of a body whose blocks have these arguments.
func (k *maker) end(s *scope, results []string, args [][]string) {
	const ways = 6
	way := k.next(ways)
	if len(args) == 1 {
		way = ways
	}
	succ := func() api.Succ {
		b := 1 + k.next(len(args)-1)
		return api.Succ{Block: b, Args: k.valuesOf(s, args[b]...)}
	}
	var o api.Op
	switch way {
	case 0, 1:
		o = api.Op{Name: "cf.br", Succs: []api.Succ{succ()}}
	case 2:
		o = api.Op{Name: "cf.cond", Operands: k.valuesOf(s, "i1"), Succs: []api.Succ{succ(), succ()}}
	case 3:
		o = api.Op{Name: "toy.fork", Operands: k.valuesOf(s, k.types(2)...), Succs: []api.Succ{succ(), succ()}}
	case 4:
		o = api.Op{Name: "toy.go", Results: k.types(2), Succs: []api.Succ{succ()}}
		s.values = append(s.values, k.define(o.Results)...)
	case 5:
		o = api.Op{Name: "cf.trap", Attrs: []api.Attr{{Name: "code", Int: int64(16 + k.next(1000))}}}
	default:
		o = api.Op{Name: "func.return", Operands: k.valuesOf(s, results...)}
	}
	s.ops = append(s.ops, o)
}

// fill puts operations into a block that is so many regions deep.
func (k *maker) fill(s *scope, depth int) {
	for range k.next(5) {
		if k.budget > 0 {
			k.budget--
			k.operation(s, depth)
		}
	}
}

func (k *maker) operation(s *scope, depth int) {
	n, any := pick(k, someNumbers), pick(k, someTypes)
	switch way := k.next(22); {
	case way < 3:
		name := pick(k, words("arith.add arith.sub arith.mul arith.divs arith.remu arith.shl arith.xor"))
		k.add(s, name, k.valuesOf(s, n, n), []string{n})
	case way == 3:
		pred := attribute("pred", pick(k, words("eq ne slt sle sgt sge ult ule ugt uge")))
		k.add(s, "arith.cmp", k.valuesOf(s, n, n), []string{"i1"}, pred)
	case way == 4:
		k.add(s, "arith.select", k.valuesOf(s, "i1", any, any), []string{any})
	case way == 5:
		k.add(s, pick(k, words("arith.exts arith.extu")), k.valuesOf(s, "i8"), []string{pick(k, words("i9 i32 i64"))})
	case way == 6:
		k.add(s, "arith.trunc", k.valuesOf(s, "i32"), []string{pick(k, words("i1 i8 i31"))})
	case way == 7:
		k.add(s, "arith.cast", k.valuesOf(s, n), []string{"index"})
	case way == 8:
		k.add(s, "arith.cast", k.valuesOf(s, "index"), []string{n})
	case way == 9:
		k.add(s, "mem.load", k.valuesOf(s, "mem<2x3xi32>", "index", "index"), []string{"i32"})
	case way == 10:
		k.add(s, "mem.store", k.valuesOf(s, "mem<4xi8>", "i8", "index"), nil)
	case way == 11:
		k.add(s, "arr.set", k.valuesOf(s, "arr<4xi8>", "i8", "index"), words("arr<4xi8>"))
	case way == 12:
		k.add(s, "io.print", k.valuesOf(s, n), nil)
	case way == 13:
		f := k.next(len(k.functions))
		k.add(s, "func.call", k.valuesOf(s, k.functions[f].in...), k.functions[f].out, attribute("callee", fmt.Sprint("@f", f)))
	case way == 14:
		k.add(s, "toy.noted", nil, nil, attribute("n", "5"), attribute("t", ":i8"), attribute("x_a", "odd"))
	case way == 15:
		k.add(s, "toy.both", k.valuesOf(s, any, any), []string{any})
	case way == 16:
		k.add(s, "toy.use", k.valuesOf(s, k.types(3)...), nil)
	case depth < 4:
		k.nested(s, depth+1)
	}
}

// end is how a region ends: an operation, and the types of its operands.
type end struct {
	name     string
	operands []string
}

// nested puts an operation with regions behind others. Its results have lower numbers than what is inside of it.
func (k *maker) nested(s *scope, depth int) {
	carried, given := k.types(2), k.types(2)
	o := api.Op{Name: pick(k, words("scf.if scf.for scf.while toy.around toy.blocks")), Results: given}
	add := func(args []string, e end) {
		inner := &scope{values: slices.Clone(s.values)}
		inner.values = append(inner.values, k.define(args)...)
		k.fill(inner, depth)
		operands := k.valuesOf(inner, e.operands...)
		k.add(inner, e.name, operands, nil)
		o.Regions = append(o.Regions, api.Region{Blocks: []api.Block{{Args: args, Ops: inner.ops}}})
	}
	yield := func(texts []string) end { return end{"scf.yield", texts} }
	any := end{pick(k, words("scf.yield toy.end")), k.types(2)}
	// The operands come first, as they may have to be made.
	switch o.Name {
	case "scf.if":
		o.Operands = k.valuesOf(s, "i1")
	case "scf.for":
		o.Results = carried
		o.Attrs = []api.Attr{{Name: "step", Int: pick(k, []int64{1, 2, math.MaxInt32})}}
		o.Operands = k.valuesOf(s, slices.Concat(words("index index"), carried)...)
	default:
		o.Operands = k.valuesOf(s, carried...)
	}
	results := k.define(o.Results)
	switch o.Name {
	case "scf.if":
		add(nil, yield(given))
		add(nil, yield(given))
	case "scf.for":
		add(slices.Concat(words("index"), carried), yield(carried))
	case "scf.while":
		add(carried, end{"scf.cond", slices.Concat(words("i1"), given)})
		add(given, yield(carried))
	case "toy.around":
		add(k.types(2), any)
	case "toy.blocks":
		add(k.types(2), end{"scf.cond", words("i1 i8")})
		add(k.types(2), any)
		for i, r := range k.blocks(o.Regions) {
			o.Regions[i] = r
		}
	}
	s.ops = append(s.ops, o)
	s.values = append(s.values, results...)
}

// blocks puts a block behind the only one of the last region, without values of its own.
func (k *maker) blocks(l []api.Region) []api.Region {
	last := &l[len(l)-1]
	b := api.Block{Ops: []api.Op{{Name: "toy.end"}}}
	if k.next(2) == 0 {
		b.Ops[0] = api.Op{Name: "toy.fork", Succs: []api.Succ{{Block: 1}, {Block: 1}}}
	}
	last.Blocks = append(last.Blocks, b)
	return l
}
