package verify

import (
	"iter"
	"slices"

	"demotic/api"
	"demotic/flow"
)

// The entry of a region, and the index where the arguments of a block are defined.
const (
	entry     = 0
	beforeAll = -1
)

// function is a function of the module, taken apart.
type function struct {
	number int
	sites  []*site // in the order of its text, itself first
	values []value
}

// value has the type of a value, and where it is defined.
type value struct {
	text string
	at   spot
}

// site is an operation where it stands.
type site struct {
	function *function
	op       *api.Op
	path     []int
	at       spot
	in       []string // the types of its operands
}

// spot is a place in a region; that of a function has none.
type spot struct {
	region       *region
	block, index int
}

// region is a region of an operation.
type region struct {
	owner     *site
	number    int
	blocks    []api.Block
	immediate []int // the immediate dominators, once they were asked for
}

// sites gives the operations of the functions from one on up to behind, in the order of their text.
func (c *checker) sites(from, behind int) iter.Seq[*site] {
	return func(yield func(*site) bool) {
	walk:
		for f := from; f < behind; f++ {
			fn := read(f, &c.module.Ops[f])
			for _, s := range fn.sites {
				if !yield(s) {
					break walk
				}
			}
		}
	}
}

// read takes a function apart.
func read(number int, op *api.Op) *function {
	fn := &function{number: number}
	fn.readOperation(op, nil, spot{})
	// A value may be used before it is defined.
	for _, s := range fn.sites {
		s.in = fn.typesOf(s.op.Operands)
	}
	return fn
}

func (fn *function) readOperation(op *api.Op, path []int, at spot) {
	s := &site{function: fn, op: op, path: path, at: at}
	fn.sites = append(fn.sites, s)
	fn.define(op.Results, at)
	for k, r := range op.Regions {
		fn.readRegion(&region{owner: s, number: k, blocks: r.Blocks})
	}
}

func (fn *function) readRegion(r *region) {
	path := r.path()
	for n := range r.blocks {
		b := &r.blocks[n]
		fn.define(b.Args, spot{r, n, beforeAll})
		for i := range b.Ops {
			fn.readOperation(&b.Ops[i], longer(path, n, i), spot{r, n, i})
		}
	}
}

// define adds the values that are defined at a spot.
func (fn *function) define(texts []string, at spot) {
	for _, t := range texts {
		fn.values = append(fn.values, value{t, at})
	}
}

// typesOf returns the types of values.
func (fn *function) typesOf(numbers []int) []string {
	texts := make([]string, 0, len(numbers))
	for _, v := range numbers {
		texts = append(texts, fn.values[v].text)
	}
	return texts
}

func (r *region) path() []int {
	if r.owner.isFunction() {
		return nil
	}
	return longer(r.owner.path, r.number)
}

// longer returns a path that goes on from another one. Without the third index, paths that go on from the same one could share their memory.
func longer(path []int, steps ...int) []int {
	return append(path[:len(path):len(path)], steps...)
}

// isFunction tells whether the operation is a function of the module.
func (s *site) isFunction() bool { return s.at.region == nil }

// isInBody tells whether the operation stands in a block of the body of a function of the module.
func (s *site) isInBody() bool { return !s.isFunction() && s.at.region.owner.isFunction() }

// isLast tells whether the operation is the last one of its block.
func (s *site) isLast() bool {
	return !s.isFunction() && s.at.index == len(s.at.region.blocks[s.at.block].Ops)-1
}

// types gives the types that the operation has: of operands, of results, and of the arguments of its regions' blocks.
func (s *site) types() iter.Seq[string] {
	lists := [][]string{s.in, s.op.Results}
	if s.isFunction() {
		lists = append(lists, resultTypes(s.op))
	}
	for _, r := range s.op.Regions {
		for _, b := range r.Blocks {
			lists = append(lists, b.Args)
		}
	}
	return slices.Values(slices.Concat(lists...))
}

// seesAll tells whether all that the operation uses is visible there.
func (s *site) seesAll() bool {
	lists := [][]int{s.op.Operands}
	for _, next := range s.op.Succs {
		lists = append(lists, next.Args)
	}
	for _, l := range lists {
		for _, v := range l {
			if !s.sees(s.function.values[v].at) {
				return false
			}
		}
	}
	return true
}

// sees tells whether what is defined at a spot is visible at the operation.
func (s *site) sees(defined spot) bool {
	for s.at.region != defined.region {
		if s.isInBody() {
			return false
		}
		s = s.at.region.owner
	}
	return defined.region.sees(s.at, defined)
}

// sees tells whether what is defined at one spot of a region is visible at another one.
func (r *region) sees(at, defined spot) bool {
	switch {
	case !r.dominates(entry, at.block):
		// Nothing runs there.
		return true
	case at.block == defined.block:
		return defined.index < at.index
	}
	return r.dominates(defined.block, at.block)
}

// dominates tells whether one block dominates another one.
func (r *region) dominates(a, b int) bool {
	if len(r.blocks) == 1 {
		return true
	}
	if r.immediate == nil {
		r.immediate, _ = flow.Dominators(r.alone(), 0, nil)
	}
	for b != a && b >= 0 {
		b = r.immediate[b]
	}
	return b == a
}

// alone returns a module that has nothing but the blocks of the region and how they lead to each other, so that what is found of them takes no longer in a large module.
func (r *region) alone() api.Module {
	blocks := make([]api.Block, len(r.blocks))
	for n, b := range r.blocks {
		if len(b.Ops) == 0 {
			continue
		}
		last := b.Ops[len(b.Ops)-1]
		end := api.Op{Name: last.Name}
		for _, next := range last.Succs {
			end.Succs = append(end.Succs, api.Succ{Block: next.Block})
		}
		blocks[n].Ops = []api.Op{end}
	}
	body := []api.Region{{Blocks: blocks}}
	return api.Module{Ops: []api.Op{{Name: functionName, Regions: body}}}
}
