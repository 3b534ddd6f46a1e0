package flow_test

import (
	"fmt"
	"math/rand/v2"
	"slices"
	"strings"

	"demotic/api"
)

// Data and a second reading of the definitions, which the tests of several promises use.

// shape has, for each block of a region, the blocks of the successors of its last operation.
type shape [][]int

// place is a region of a module.
type place struct {
	m      api.Module
	f      int
	region []int
}

// said is what values look like, with blanks between them.
func said(l ...any) string {
	return strings.TrimSuffix(fmt.Sprintln(l...), "\n")
}

func op(name string, operands []int, results ...string) api.Op {
	return api.Op{Name: name, Operands: operands, Results: results}
}

// around is an operation with regions.
func around(regions ...api.Region) api.Op { return api.Op{Name: "t.around", Regions: regions} }

// leading is an operation that has these blocks as successors.
func leading(operands []int, blocks ...int) api.Op {
	o := op("t.end", operands)
	for _, b := range blocks {
		o.Succs = append(o.Succs, api.Succ{Block: b})
	}
	return o
}

// giving is an operation with one successor, which gets these values.
func giving(block int, values ...int) api.Op {
	return api.Op{Name: "t.end", Succs: []api.Succ{{Block: block, Args: values}}}
}

func block(args []string, ops ...api.Op) api.Block { return api.Block{Args: args, Ops: ops} }

func region(blocks ...api.Block) api.Region { return api.Region{Blocks: blocks} }

func fn(blocks ...api.Block) api.Op {
	return api.Op{Name: "func.func", Regions: []api.Region{region(blocks...)}}
}

func module(fns ...api.Op) api.Module { return api.Module{Ops: fns} }

// region is a region of this shape. Blocks without successors have operations or not, and some have an operation with successors before the last one.
func (s shape) region() api.Region {
	var r api.Region
	for n, next := range s {
		var b api.Block
		if n%3 == 0 {
			b.Ops = append(b.Ops, leading(nil, len(s)-1, n, 0))
		}
		if n%3 == 0 || n%2 == 0 || len(next) > 0 {
			b.Ops = append(b.Ops, leading(nil, next...))
		}
		r.Blocks = append(r.Blocks, b)
	}
	return r
}

// places are modules that have a region of this shape: as the body of the only function, of another function, and inside of operations, up to the deepest.
func (s shape) places() []place {
	other := shape{{1}, {0, 1}, {2}}.region()
	body := api.Op{Name: "func.func", Regions: []api.Region{s.region()}}
	inside := fn(block(nil, leading(nil, 1)), block([]string{"i8"}, around(other), around(other, s.region()), leading(nil)))
	deep, path := s.region(), []int{}
	for range api.MaxDepth - 1 {
		deep = region(block(nil, op("t.a", nil)), block(nil, around(other, deep)))
		path = append(path, 1, 0, 1)
	}
	return []place{
		{module(body), 0, nil},
		{module(fn(other.Blocks...), body, fn(block(nil))), 1, []int{}},
		{module(inside), 0, []int{1, 1, 1}},
		{module(fn(deep.Blocks...)), 0, path},
	}
}

// reading is a second reading of what the chapter says of the blocks of a region.
type reading struct {
	next      [][]int
	previous  [][]int
	reachable []bool
	dominates [][]bool // of two blocks, whether the first one dominates the second one
}

// largestForWays is how many blocks a region has at most of which all ways are looked at.
const largestForWays = 5

func read(s shape) reading {
	r := reading{next: make([][]int, len(s))}
	for b, l := range s {
		for i, n := range l {
			if !slices.Contains(l[:i], n) {
				r.next[b] = append(r.next[b], n)
			}
		}
	}
	for b := range s {
		var l []int
		for n, next := range r.next {
			if slices.Contains(next, b) {
				l = append(l, n)
			}
		}
		r.previous = append(r.previous, l)
	}
	r.reachable = onWays(r.next, 0, -1)
	if len(s) <= largestForWays {
		r.dominates = dominatesByWays(r)
	} else {
		r.dominates = dominatesByEquations(r)
	}
	return r
}

// onWays tells which blocks are on ways from one block on that do not pass another one.
func onWays(next [][]int, from, without int) []bool {
	on := make([]bool, len(next))
	if from == without {
		return on
	}
	on[from] = true
	for todo := []int{from}; len(todo) > 0; todo = todo[1:] {
		for _, n := range next[todo[0]] {
			if n != without && !on[n] {
				on[n] = true
				todo = append(todo, n)
			}
		}
	}
	return on
}

// table is one with an entry for each two blocks.
func table(blocks int, entry func(a, b int) bool) [][]bool {
	t := make([][]bool, blocks)
	for a := range t {
		for b := range blocks {
			t[a] = append(t[a], entry(a, b))
		}
	}
	return t
}

// dominatesByWays looks at all ways from the entry that pass no block twice. (The others pass what one of these passes.)
func dominatesByWays(r reading) [][]bool {
	t := table(len(r.next), func(a, b int) bool { return r.reachable[a] && r.reachable[b] })
	var visit func(way []int)
	visit = func(way []int) {
		last := way[len(way)-1]
		for a := range t {
			t[a][last] = t[a][last] && slices.Contains(way, a)
		}
		for _, n := range r.next[last] {
			if !slices.Contains(way, n) {
				visit(append(slices.Clone(way), n))
			}
		}
	}
	visit([]int{0})
	return t
}

// dominatesByEquations: what dominates a block is that block, and what dominates all blocks before it.
func dominatesByEquations(r reading) [][]bool {
	t := table(len(r.next), func(a, b int) bool { return r.reachable[a] && r.reachable[b] && (b != 0 || a == 0) })
	for changed := true; changed; {
		changed = false
		for from, l := range r.next {
			for _, to := range l {
				for a := range t {
					if r.reachable[from] && a != to && t[a][to] && !t[a][from] {
						t[a][to], changed = false, true
					}
				}
			}
		}
	}
	return t
}

// order keeps the blocks that it has entered and not left on a stack, with how many successors of each one it has seen.
func (r reading) order() []int {
	type step struct{ block, seen int }
	entered := make([]bool, len(r.next))
	var order []int
	stack := []step{{}}
	entered[0] = true
	for len(stack) > 0 {
		top := &stack[len(stack)-1]
		if top.seen == len(r.next[top.block]) {
			order = append([]int{top.block}, order...)
			stack = stack[:len(stack)-1]
			continue
		}
		n := r.next[top.block][top.seen]
		top.seen++
		if !entered[n] {
			entered[n] = true
			stack = append(stack, step{block: n})
		}
	}
	return order
}

// immediate has the dominator of each block that all others dominate.
func (r reading) immediate() []int {
	var l []int
	for b := range r.next {
		found := -1
		for a := range r.next {
			if a == b || !r.dominates[a][b] {
				continue
			}
			isLast := true
			for c := range r.next {
				isLast = isLast && (c == b || !r.dominates[c][b] || r.dominates[c][a])
			}
			if isLast {
				found = a
			}
		}
		l = append(l, found)
	}
	return l
}

func (r reading) frontier() [][]int {
	var all [][]int
	for a := range r.next {
		var l []int
		for b := range r.next {
			fits := r.reachable[a] && r.reachable[b] && (a == b || !r.dominates[a][b])
			if fits && slices.ContainsFunc(r.previous[b], func(p int) bool { return r.reachable[p] && r.dominates[a][p] }) {
				l = append(l, b)
			}
		}
		all = append(all, l)
	}
	return all
}

func (r reading) isBack(from, to int) bool { return r.dominates[to][from] }

func (r reading) loops() [][]int {
	var all [][]int
	for h := range r.next {
		loop := []int{h}
		var starts []int
		for _, p := range r.previous[h] {
			if r.isBack(p, h) {
				starts = append(starts, p)
			}
		}
		for b := range r.next {
			on := onWays(r.next, b, h)
			if r.reachable[b] && slices.ContainsFunc(starts, func(s int) bool { return on[s] }) {
				loop = append(loop, b)
			}
		}
		if len(starts) > 0 {
			all = append(all, loop)
		}
	}
	return all
}

func (r reading) isReducible() bool {
	forward := make([][]int, len(r.next))
	for from, l := range r.next {
		for _, to := range l {
			if !r.isBack(from, to) {
				forward[from] = append(forward[from], to)
			}
		}
	}
	for b := range r.next {
		for _, n := range forward[b] {
			if r.reachable[b] && onWays(forward, n, -1)[b] {
				return false
			}
		}
	}
	return true
}

// subsets are the lists of successors, rising, that a block of a region may have.
func subsets(blocks int) [][]int {
	var all [][]int
	for bits := range 1 << blocks {
		var l []int
		for b := range blocks {
			if bits>>b&1 != 0 {
				l = append(l, b)
			}
		}
		all = append(all, l)
	}
	return all
}

// smallShapes are all shapes of up to 3 blocks, but for the order of successors, and many of 4 and 5.
func smallShapes() []shape {
	var all []shape
	for _, a := range subsets(1) {
		all = append(all, shape{a})
	}
	for _, a := range subsets(2) {
		for _, b := range subsets(2) {
			all = append(all, shape{a, b})
		}
	}
	for _, a := range subsets(3) {
		for _, b := range subsets(3) {
			for _, c := range subsets(3) {
				all = append(all, shape{a, b, c})
			}
		}
	}
	k := ranMaker(4)
	for range 1500 {
		all = append(all, k.shape(4+k.next(2), 3))
	}
	return all
}

// largeShapes are shapes of up to MaxBlocks blocks.
func largeShapes() []shape {
	k := ranMaker(5)
	var all []shape
	for range 400 {
		all = append(all, k.shape(6+k.next(9), 3))
	}
	for _, blocks := range []int{63, 64, 65, 127, 128, 129, api.MaxBlocks} {
		all = append(all, k.shape(blocks, 2), k.shape(blocks, 4))
	}
	chain, back := make(shape, api.MaxBlocks), make(shape, api.MaxBlocks)
	for b := range api.MaxBlocks - 1 {
		chain[b] = []int{b + 1}
		back[b+1] = []int{0, b}
	}
	back[0] = []int{api.MaxBlocks - 1}
	wide := make(shape, api.MaxBlocks)
	for range api.MaxList {
		wide[0] = append(wide[0], k.next(api.MaxBlocks))
		wide[k.next(api.MaxBlocks)] = k.blocks(api.MaxList, api.MaxBlocks)
	}
	return append(all, chain, back, wide)
}

// maker makes shapes and modules from a sequence of numbers.
type maker struct {
	next   func(n int) int // from 0 to n - 1
	budget int             // how many more operations there may be
}

// ranMaker is a maker whose numbers are random.
func ranMaker(seed uint64) *maker {
	r := rand.New(rand.NewPCG(seed, 4))
	return &maker{next: r.IntN, budget: 25}
}

// blocks returns n numbers of blocks, some of them perhaps more than once.
func (k *maker) blocks(n, blocks int) []int {
	var l []int
	for range n {
		l = append(l, k.next(blocks))
	}
	return l
}

func (k *maker) shape(blocks, successors int) shape {
	s := make(shape, blocks)
	for b := range s {
		s[b] = k.blocks(k.next(successors+1), blocks)
	}
	return s
}

func (k *maker) region(depth int) api.Region {
	var r api.Region
	for range 1 + k.next(5) {
		b := block(slices.Repeat([]string{"i8"}, k.next(3)))
		for range k.next(5) {
			if k.budget > 0 {
				k.budget--
				b.Ops = append(b.Ops, k.operation(depth))
			}
		}
		r.Blocks = append(r.Blocks, b)
	}
	return r
}

// operation makes an operation without uses: how many values there are is not known yet.
func (k *maker) operation(depth int) api.Op {
	o := op("t.a", nil, slices.Repeat([]string{"i8"}, k.next(3))...)
	if depth < 3 && k.next(4) == 0 {
		for range 1 + k.next(2) {
			o.Regions = append(o.Regions, k.region(depth+1))
		}
	}
	return o
}

// use makes the operations inside of a region use values, and gives them successors: the last ones of blocks more often.
func (k *maker) use(r api.Region, values int) {
	for _, b := range r.Blocks {
		for i := range b.Ops {
			o := &b.Ops[i]
			o.Operands = k.uses(values)
			if i == len(b.Ops)-1 || k.next(5) == 0 {
				for range k.next(4) {
					o.Succs = append(o.Succs, api.Succ{Block: k.next(len(r.Blocks)), Args: k.uses(values)})
				}
			}
			for _, inner := range o.Regions {
				k.use(inner, values)
			}
		}
	}
}

func (k *maker) uses(values int) []int {
	if values == 0 {
		return nil
	}
	return k.blocks(k.next(3), values)
}

func (k *maker) module() api.Module {
	var m api.Module
	for range 1 + k.next(2) {
		f := api.Op{Name: "func.func", Regions: []api.Region{k.region(0)}}
		k.use(f.Regions[0], len(valuesOf(f)))
		m.Ops = append(m.Ops, f)
	}
	return m
}

// modules have operations inside of others, and blocks that are not reachable.
func modules() []api.Module {
	l := []api.Module{module(fn(block(nil))), module(fn(block([]string{"i8"}, leading([]int{0}, 0))))}
	for seed := range uint64(150) {
		l = append(l, ranMaker(seed).module())
	}
	return l
}
