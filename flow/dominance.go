package flow

import "slices"

// dominated returns the blocks that a block dominates: those that no walk reaches that may not enter it.
func (g *graph) dominated(a int) set {
	entered := newSet(len(g.next))
	entered.add(a)
	walk(g.next, entered, entry)
	entered.remove(a)
	return g.reachable.without(entered)
}

// immediate returns the immediate dominators. Of two dominators of a block, one dominates the other and stands before it in the order: the last one is the immediate one.
func (g *graph) immediate() []int {
	above := slices.Repeat([]int{-1}, len(g.next))
	for _, a := range g.order() {
		for b := range g.dominated(a).all() {
			if a != b {
				above[b] = a
			}
		}
	}
	return above
}

// frontier returns, for each block, what edges from what it dominates lead to, but for what it dominates (except itself).
func (g *graph) frontier() [][]int {
	frontiers := make([]set, len(g.next))
	for a := range frontiers {
		below := g.dominated(a)
		frontiers[a] = newSet(len(g.next))
		for from := range below.all() {
			for _, to := range g.next[from] {
				if to == a || !below.has(to) {
					frontiers[a].add(to)
				}
			}
		}
	}
	return listed(frontiers)
}

// loops returns the loop of each block that edges from what it dominates lead back to.
func (g *graph) loops() [][]int {
	var loops [][]int
	for header := range g.next {
		below := g.dominated(header)
		var starts []int
		for _, b := range g.previous[header] {
			if below.has(b) {
				starts = append(starts, b)
			}
		}
		if len(starts) > 0 {
			loops = append(loops, g.loop(header, starts))
		}
	}
	return loops
}

// loop returns the loop of a header: what leads to one of the starts of its back edges.
func (g *graph) loop(header int, starts []int) []int {
	entered := newSet(len(g.next))
	entered.add(header)
	walk(g.previous, entered, starts...)
	loop := []int{header}
	for b := range entered.all() {
		if b != header && g.reachable.has(b) {
			loop = append(loop, b)
		}
	}
	return loop
}

// isReducible tells whether each edge that closes a circle is a back edge. Those that do are the edges to a block that the walk leaves only after the start of the edge: it came to the start from there, along edges none of which is a back edge.
func (g *graph) isReducible() bool {
	leaves := make([]int, len(g.next))
	for at, b := range g.left {
		leaves[b] = at
	}
	for _, from := range g.left {
		for _, to := range g.next[from] {
			if leaves[to] >= leaves[from] && !g.dominated(to).has(from) {
				return false
			}
		}
	}
	return true
}
