package flow_test

import (
	"slices"
	"testing"

	"demotic/api"
	"demotic/flow"
)

// The regions of the examples, and others of which one sees what must be said of them.
var (
	fork    = shape{{1, 2}, {3}, {3}, {}}
	loop    = shape{{1}, {2, 3}, {1}, {}}
	circle  = shape{{1, 2}, {2}, {1}} // two ways into it
	nested  = shape{{1}, {2, 5}, {3}, {2, 4}, {1}, {}}
	twice   = shape{{1}, {2, 3}, {1}, {1, 4}, {}} // two back edges to one header
	itself  = shape{{0, 1}, {1}}
	unseen  = shape{{1}, {1, 3}, {1, 4}, {}, {2}} // 2 and 4 are not reachable
	repeats = shape{{2, 1, 2, 2, 1}, {}, {1, 1}}
	single  = shape{{}}
)

// all is what all calls say of a region.
func all(p place) []string {
	return []string{
		said(flow.Successors(p.m, p.f, p.region)),
		said(flow.Predecessors(p.m, p.f, p.region)),
		said(flow.Reachable(p.m, p.f, p.region)),
		said(flow.Order(p.m, p.f, p.region)),
		said(flow.Dominators(p.m, p.f, p.region)),
		said(flow.Frontier(p.m, p.f, p.region)),
		said(flow.Loops(p.m, p.f, p.region)),
		said(flow.Reducible(p.m, p.f, p.region)),
	}
}

// names are those of the calls in all.
var names = []string{"Successors", "Predecessors", "Reachable", "Order", "Dominators", "Frontier", "Loops", "Reducible"}

func TestExamples(t *testing.T) {
	for i, c := range []struct {
		s    shape
		want []string
	}{
		{fork, []string{"[[1 2] [3] [3] []] 0", "[[] [0] [0] [1 2]] 0", "[true true true true] 0", "[0 2 1 3] 0", "[-1 0 0 0] 0", "[[] [3] [3] []] 0", "[] 0", "true 0"}},
		{loop, []string{"[[1] [2 3] [1] []] 0", "[[] [0 2] [1] [1]] 0", "[true true true true] 0", "[0 1 3 2] 0", "[-1 0 1 1] 0", "[[] [1] [1] []] 0", "[[1 2]] 0", "true 0"}},
		{circle, []string{"[[1 2] [2] [1]] 0", "[[] [0 2] [0 1]] 0", "[true true true] 0", "[0 1 2] 0", "[-1 0 0] 0", "[[] [2] [1]] 0", "[] 0", "false 0"}},
		{nested, []string{"[[1] [2 5] [3] [2 4] [1] []] 0", "[[] [0 4] [1 3] [2] [3] [1]] 0", "[true true true true true true] 0", "[0 1 5 2 3 4] 0", "[-1 0 1 2 3 1] 0", "[[] [1] [1 2] [1 2] [1] []] 0", "[[1 2 3 4] [2 3]] 0", "true 0"}},
		{twice, []string{"[[1] [2 3] [1] [1 4] []] 0", "[[] [0 2 3] [1] [1] [3]] 0", "[true true true true true] 0", "[0 1 3 4 2] 0", "[-1 0 1 1 3] 0", "[[] [1] [1] [1] []] 0", "[[1 2 3]] 0", "true 0"}},
		{itself, []string{"[[0 1] [1]] 0", "[[0] [0 1]] 0", "[true true] 0", "[0 1] 0", "[-1 0] 0", "[[0] [1]] 0", "[[0] [1]] 0", "true 0"}},
		{unseen, []string{"[[1] [1 3] [1 4] [] [2]] 0", "[[] [0 1 2] [4] [1] [2]] 0", "[true true false true false] 0", "[0 1 3] 0", "[-1 0 -1 1 -1] 0", "[[] [1] [] [] []] 0", "[[1]] 0", "true 0"}},
		{repeats, []string{"[[2 1] [] [1]] 0", "[[] [0 2] [0]] 0", "[true true true] 0", "[0 2 1] 0", "[-1 0 0] 0", "[[] [] [1]] 0", "[] 0", "true 0"}},
		{single, []string{"[[]] 0", "[[]] 0", "[true] 0", "[0] 0", "[-1] 0", "[[]] 0", "[] 0", "true 0"}},
	} {
		for _, p := range c.s.places() {
			for k, got := range all(p) {
				if got != c.want[k] {
					t.Errorf("case %d: %s of the region at %v: %s, want %s", i, names[k], p.region, got, c.want[k])
				}
			}
		}
	}
	for i, c := range []struct {
		s    shape
		a, b int
		want string
	}{
		{fork, 0, 3, "true 0"}, {fork, 1, 3, "false 0"}, {fork, 3, 3, "true 0"}, {fork, 3, 1, "false 0"}, {fork, 1, 0, "false 0"},
		{nested, 1, 4, "true 0"}, {nested, 2, 4, "true 0"}, {nested, 2, 5, "false 0"}, {nested, 2, 1, "false 0"},
		{unseen, 2, 2, "false 0"}, {unseen, 0, 2, "false 0"}, {unseen, 2, 4, "false 0"}, {unseen, 2, 1, "false 0"},
		{single, 0, 0, "true 0"}, {single, 0, 1, "false 1"}, {single, 1, 0, "false 1"}, {single, -1, 0, "false 1"}, {single, 0, -1, "false 1"},
	} {
		for _, p := range c.s.places() {
			if got := said(flow.Dominates(p.m, p.f, p.region, c.a, c.b)); got != c.want {
				t.Errorf("case %d: Dominates(%d, %d) in the region at %v: %s, want %s", i, c.a, c.b, p.region, got, c.want)
			}
		}
	}
}

// expect holds all calls for a region of this shape against the second reading.
func expect(t *testing.T, p place, s shape) {
	r := read(s)
	want := []string{
		said(r.next, api.OK),
		said(r.previous, api.OK),
		said(r.reachable, api.OK),
		said(r.order(), api.OK),
		said(r.immediate(), api.OK),
		said(r.frontier(), api.OK),
		said(r.loops(), api.OK),
		said(r.isReducible(), api.OK),
	}
	for i, got := range all(p) {
		if got != want[i] {
			t.Errorf("%s of %v at %v: %s, want %s", names[i], s, p.region, got, want[i])
		}
	}
	// Not all pairs of the blocks of large regions.
	step := 1 + len(s)/15
	for a := len(s) % step; a < len(s); a += step {
		for b := a % step; b < len(s); b += step {
			if got, e := flow.Dominates(p.m, p.f, p.region, a, b); got != r.dominates[a][b] || e != api.OK {
				t.Errorf("Dominates of %v at %v: %d, %d: %v, %d", s, p.region, a, b, got, e)
			}
		}
	}
}

// P4.1 to P4.4, for all small regions.
func TestSmallRegions(t *testing.T) {
	t.Parallel()
	for i, s := range smallShapes() {
		places := s.places()
		expect(t, places[i%len(places)], s)
	}
}

// P4.1 to P4.4, for regions of up to MaxBlocks blocks.
func TestLargeRegions(t *testing.T) {
	t.Parallel()
	for i, s := range largeShapes() {
		places := s.places()
		expect(t, places[i%len(places)], s)
	}
}

// P4.1 to P4.4, for all regions of modules, wherever they are.
func TestRegionsOfModules(t *testing.T) {
	t.Parallel()
	for _, m := range modules() {
		for f := range m.Ops {
			for _, x := range regionsOf(m.Ops[f]) {
				expect(t, place{m, f, x.path}, shapeOf(x.region))
			}
		}
	}
}

// The two second readings of dominance say the same.
func TestSecondReading(t *testing.T) {
	for _, s := range smallShapes() {
		r := read(s)
		if said(dominatesByEquations(r)) != said(r.dominates) {
			t.Errorf("dominance of %v: %v", s, r.dominates)
		}
	}
}

// P4.6: a tree with the entry as root, in which one block is above another one just if it dominates it; and the order begins with the entry, and has each block after its immediate dominator.
func TestP4_6(t *testing.T) {
	t.Parallel()
	for _, s := range append(smallShapes(), largeShapes()...) {
		p := s.places()[0]
		above, e1 := flow.Dominators(p.m, p.f, p.region)
		order, e2 := flow.Order(p.m, p.f, p.region)
		if e1 != api.OK || e2 != api.OK || order[0] != 0 || above[0] != -1 {
			t.Errorf("%v: dominators %v, order %v", s, above, order)
			continue
		}
		for _, b := range order {
			if b != 0 && slices.Index(order, above[b]) >= slices.Index(order, b) {
				t.Errorf("%v: order %v, but %d is the immediate dominator of %d", s, order, above[b], b)
			}
			chain := []int{}
			for a := b; a >= 0 && len(chain) <= len(s); a = above[a] {
				chain = append(chain, a)
			}
			if chain[len(chain)-1] != 0 {
				t.Errorf("%v: dominators %v do not lead from %d to the entry", s, above, b)
			}
			for a := b % 20; a < len(s); a += 1 + len(s)/3 {
				if got, e := flow.Dominates(p.m, p.f, p.region, a, b); got != slices.Contains(chain, a) || e != api.OK {
					t.Errorf("%v: Dominates(%d, %d): %v, %d, but above it are %v", s, a, b, got, e, chain)
				}
			}
		}
	}
}
