package flow

import (
	"iter"
	"slices"

	"demotic/api"
)

const entry = 0

// edge leads from a block to one of its successors.
type edge [2]int

// graph is the blocks of a region and the edges between them.
type graph struct {
	next, previous [][]int
	reachable      set
	left           []int // the reachable blocks in the order in which a walk from the entry leaves them
}

func newGraph(r api.Region) *graph {
	blocks := len(r.Blocks)
	g := &graph{next: make([][]int, blocks), previous: make([][]int, blocks), reachable: newSet(blocks)}
	known := map[edge]bool{}
	for e := range edges(r) {
		if known[e] {
			continue
		}
		known[e] = true
		from, to := e[0], e[1]
		g.next[from] = append(g.next[from], to)
		g.previous[to] = append(g.previous[to], from)
	}
	g.left = walk(g.next, g.reachable, entry)
	return g
}

// edges gives the edges of a region as its blocks have them, some of them perhaps more than once.
func edges(r api.Region) iter.Seq[edge] {
	return func(yield func(edge) bool) {
		for n, b := range r.Blocks {
			for _, s := range ending(b) {
				if !yield(edge{n, s.Block}) {
					return
				}
			}
		}
	}
}

// ending returns the successors of the last operation of a block. Those that other operations have lead nowhere.
func ending(b api.Block) []api.Succ {
	if len(b.Ops) == 0 {
		return nil
	}
	return b.Ops[len(b.Ops)-1].Succs
}

// walk goes along the ways of each block from one start after the other, and enters no block that was entered. It returns the blocks in the order in which it leaves them.
func walk(ways [][]int, entered set, starts ...int) []int {
	var left []int
	var enter func(b int)
	enter = func(b int) {
		if entered.has(b) {
			return
		}
		entered.add(b)
		for _, n := range ways[b] {
			enter(n)
		}
		left = append(left, b)
	}
	for _, b := range starts {
		enter(b)
	}
	return left
}

func (g *graph) hasBlock(b int) bool { return 0 <= b && b < len(g.next) }

func (g *graph) order() []int { return reversed(g.left) }

// reversed returns a list from its last element to its first one.
func reversed[E any](l []E) []E {
	r := slices.Clone(l)
	slices.Reverse(r)
	return r
}

func (g *graph) areReachable() []bool {
	are := make([]bool, len(g.next))
	for b := range g.reachable.all() {
		are[b] = true
	}
	return are
}
