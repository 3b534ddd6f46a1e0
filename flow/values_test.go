package flow_test

import (
	"fmt"
	"slices"
	"testing"

	"demotic/api"
	"demotic/flow"
)

// line is a block or an operation: the text of a function is a list of them.
type line struct {
	path   []int // of the operation, or of the block's region
	block  int   // -1 for an operation
	defs   int   // how many values it defines
	op     *api.Op
	region api.Region // the block's
}

func linesOf(r api.Region, path []int) []line {
	var l []line
	for n := range r.Blocks {
		b := &r.Blocks[n]
		l = append(l, line{path: path, block: n, defs: len(b.Args), region: r})
		for i := range b.Ops {
			o := &b.Ops[i]
			own := slices.Concat(path, []int{n, i})
			l = append(l, line{path: own, block: -1, defs: len(o.Results), op: o})
			for k, inner := range o.Regions {
				l = append(l, linesOf(inner, slices.Concat(own, []int{k}))...)
			}
		}
	}
	return l
}

// def is where a value is defined: the arguments of a block have the index -1.
type def struct {
	region       []int
	block, index int
}

// bodyBlock is the block of the body in which it is.
func (d def) bodyBlock() int { return slices.Concat(d.region, []int{d.block})[0] }

// valuesOf are the places of the values of a function, by their numbers.
func valuesOf(f api.Op) []def {
	var l []def
	for _, x := range linesOf(f.Regions[0], nil) {
		d := def{x.path, x.block, -1}
		if x.op != nil {
			n := len(x.path) - 2
			d = def{x.path[:n], x.path[n], x.path[n+1]}
		}
		l = append(l, slices.Repeat([]def{d}, x.defs)...)
	}
	return l
}

// operationsOf are the lines of the operations inside of a function.
func operationsOf(f api.Op) []line {
	return slices.DeleteFunc(linesOf(f.Regions[0], nil), func(x line) bool { return x.op == nil })
}

// regionsOf are the lines of the first blocks of all regions of a function.
func regionsOf(f api.Op) []line {
	return slices.DeleteFunc(linesOf(f.Regions[0], nil), func(x line) bool { return x.block != 0 })
}

func shapeOf(r api.Region) shape {
	var s shape
	for _, b := range r.Blocks {
		var next []int
		if n := len(b.Ops); n > 0 {
			for _, x := range b.Ops[n-1].Succs {
				next = append(next, x.Block)
			}
		}
		s = append(s, next)
	}
	return s
}

// sight is a second reading of which values are visible in a function.
type sight struct {
	values  []def
	regions map[string]reading // by their paths
}

func sightOf(f api.Op) sight {
	s := sight{valuesOf(f), map[string]reading{}}
	for _, x := range regionsOf(f) {
		s.regions[key(x.path)] = read(shapeOf(x.region))
	}
	return s
}

// key is a path as a string.
func key(path []int) string { return fmt.Sprint(slices.Concat([]int{}, path)) }

func (s sight) isVisible(value int, path []int) bool {
	n := len(path) - 2
	region, block, index := path[:n], path[n], path[n+1]
	d, r := s.values[value], s.regions[key(region)]
	if slices.Equal(d.region, region) {
		if !r.reachable[block] || d.block == block && d.index < index || d.block != block && r.dominates[d.block][block] {
			return true
		}
	}
	return len(region) > 0 && s.isVisible(value, region[:len(region)-1])
}

func usesOf(o *api.Op) []int {
	l := slices.Clone(o.Operands)
	for _, s := range o.Succs {
		l = append(l, s.Args...)
	}
	return l
}

// liveValues is a second reading: a value lives at the entry of a block from which a way leads to a use, if it is defined in no block of the way.
func liveValues(f api.Op) [][]int {
	r := read(shapeOf(f.Regions[0]))
	used := make([]map[int]bool, len(r.next))
	for b := range used {
		used[b] = map[int]bool{}
	}
	for _, x := range operationsOf(f) {
		for _, v := range usesOf(x.op) {
			used[x.path[0]][v] = true
		}
	}
	live := make([][]int, len(r.next))
	for b := range live {
		for v, d := range valuesOf(f) {
			for n, is := range onWays(r.next, b, d.bodyBlock()) {
				if is && used[n][v] {
					live[b] = append(live[b], v)
					break
				}
			}
		}
	}
	return live
}

// visibility is a function in which values are visible at operations for all reasons that there are.
func visibility() api.Module {
	inner := region(
		block([]string{"i8"}, op("t.in", []int{3}, "i8"), leading(nil, 1)),
		block(nil, op("t.in", nil, "i8")),
		block([]string{"i8"}, op("t.lost", nil, "i8"), op("t.lost", nil, "i8")))
	outer := around(inner)
	outer.Results = []string{"i8"}
	return module(fn(
		block([]string{"i8"}, op("t.a", nil, "i8"), outer, op("t.a", nil, "i8"), leading(nil, 1, 2)),
		block([]string{"i8"}, op("t.a", nil, "i8"), leading(nil, 3)),
		block(nil, op("t.a", nil, "i8"), leading(nil, 3)),
		block([]string{"i8"}, leading(nil)),
		block(nil, op("t.a", nil, "i8"), around(region(block(nil, op("t.in", nil, "i8")))), leading(nil, 1)),
	))
}

func TestP4_5Visible(t *testing.T) {
	// The values: 0 and 1 of block 0, 2 of the operation with the region; inside of it 3 and 4 of block 0, 5 of block 1, 6, 7 and 8 of block 2, which is not reachable; 9 behind it; 10 and 11 of block 1, 12 of block 2, 13 of block 3, 14 and, inside of an operation, 15 of block 4, which is not reachable.
	for _, c := range []struct {
		path, want []int
	}{
		{[]int{0, 0}, []int{0}},
		{[]int{0, 1}, []int{0, 1}},
		{[]int{0, 1, 0, 0, 0}, []int{0, 1, 3}},
		{[]int{0, 1, 0, 0, 1}, []int{0, 1, 3, 4}},
		{[]int{0, 1, 0, 1, 0}, []int{0, 1, 3, 4}},
		{[]int{0, 1, 0, 2, 0}, []int{0, 1, 3, 4, 5, 6, 7, 8}},
		{[]int{0, 2}, []int{0, 1, 2}},
		{[]int{0, 3}, []int{0, 1, 2, 9}},
		{[]int{1, 0}, []int{0, 1, 2, 9, 10}},
		{[]int{1, 1}, []int{0, 1, 2, 9, 10, 11}},
		{[]int{2, 0}, []int{0, 1, 2, 9}},
		{[]int{3, 0}, []int{0, 1, 2, 9, 13}},
		{[]int{4, 0}, []int{0, 1, 2, 9, 10, 11, 12, 13, 14}},
		{[]int{4, 1, 0, 0, 0}, []int{0, 1, 2, 9, 10, 11, 12, 13, 14}},
		{[]int{4, 2}, []int{0, 1, 2, 9, 10, 11, 12, 13, 14}},
	} {
		m := visibility()
		var got []int
		for v := range 16 {
			if is, e := flow.Visible(m, 0, v, c.path); e != api.OK {
				t.Errorf("Visible(%d, %v): %d", v, c.path, e)
			} else if is {
				got = append(got, v)
			}
		}
		if !slices.Equal(got, c.want) {
			t.Errorf("visible at %v: %v, want %v", c.path, got, c.want)
		}
	}
}

// Data that stand in two places are two regions.
func TestP4_5SharedMemory(t *testing.T) {
	shared := around(region(block([]string{"i8"}, op("t.in", nil, "i8"))))
	m := module(fn(block(nil, shared, shared)))
	for i, c := range [][2]string{
		{said(flow.Visible(m, 0, 0, []int{0, 0, 0, 0, 0})), "true 0"},
		{said(flow.Visible(m, 0, 0, []int{0, 1, 0, 0, 0})), "false 0"},
		{said(flow.Visible(m, 0, 2, []int{0, 0, 0, 0, 0})), "false 0"},
		{said(flow.Visible(m, 0, 2, []int{0, 1, 0, 0, 0})), "true 0"},
	} {
		if c[0] != c[1] {
			t.Errorf("case %d: %s, want %s", i, c[0], c[1])
		}
	}
}

// expectValues holds the calls for the values of a function against the second reading.
func expectValues(t *testing.T, m api.Module, f int) {
	s := sightOf(m.Ops[f])
	for _, x := range operationsOf(m.Ops[f]) {
		for v := range s.values {
			if got, e := flow.Visible(m, f, v, x.path); got != s.isVisible(v, x.path) || e != api.OK {
				t.Errorf("Visible(%s, %d, %d, %v): %v, %d", said(m), f, v, x.path, got, e)
			}
		}
	}
	if got, want := said(flow.Live(m, f)), said(liveValues(m.Ops[f]), api.OK); got != want {
		t.Errorf("Live(%s, %d): %s, want %s", said(m), f, got, want)
	}
}

func TestP4_5Values(t *testing.T) {
	t.Parallel()
	for _, m := range modules()[:70] {
		for f := range m.Ops {
			expectValues(t, m, f)
		}
	}
}

func TestP4_5Live(t *testing.T) {
	i8 := []string{"i8"}
	// A loop: 1 is its number, 2 is made in it.
	counting := fn(block(i8, giving(1, 0)), block(i8, leading([]int{1}, 2, 3)), block(nil, op("t.a", []int{1, 0}, "i8"), giving(1, 2)), block(nil, leading([]int{0})))
	// What is used inside of operations, and what is defined there.
	inside := fn(block(i8, leading(nil, 1)), block(nil, around(region(block(i8, op("t.in", []int{0, 1}), giving(0, 1)))), leading(nil)))
	for i, c := range []struct {
		f    api.Op
		want string
	}{
		{fn(block(nil)), "[[]] 0"},
		{fn(block(i8, op("t.a", []int{0}))), "[[]] 0"},
		{counting, "[[] [0] [0 1] [0]] 0"},
		{inside, "[[] [0]] 0"},
		// Used before it is defined, in the block and in another one.
		{fn(block(nil, op("t.a", []int{0}), op("t.b", nil, "i8"))), "[[]] 0"},
		{fn(block(nil, op("t.a", []int{0}), leading(nil, 1)), block(i8)), "[[0] []] 0"},
		// As an argument of a successor, of the last operation or of another one.
		{fn(block(nil, leading(nil, 1)), block(nil, giving(2, 0)), block(i8)), "[[0] [0] []] 0"},
		{fn(block(nil, leading(nil, 1)), block(nil, giving(1, 0), op("t.a", nil)), block(i8)), "[[0] [0] []] 0"},
		// Of successors of another operation than the last one nothing is needed.
		{fn(block(i8, leading(nil, 1)), block(nil, leading(nil, 2), op("t.a", nil)), block(nil, op("t.b", []int{0}))), "[[] [] [0]] 0"},
		// Blocks that are not reachable.
		{fn(block(i8), block(nil, leading(nil, 2)), block(nil, leading([]int{0}, 1))), "[[] [0] [0]] 0"},
		// Around in a circle, in which blocks lead to others with smaller numbers.
		{fn(block(i8, leading(nil, 3)), block(nil, op("t.a", []int{0}), leading(nil, 3)), block(nil, leading(nil, 1)), block(nil, leading(nil, 2))), "[[] [0] [0] [0]] 0"},
		// The entry as a successor.
		{fn(block(i8, leading(nil, 1)), block(nil, leading([]int{0, 1}, 0), op("t.a", []int{0}, "i8"), leading(nil, 0))), "[[] [0]] 0"},
	} {
		for f, m := range []api.Module{module(c.f), module(inside, c.f)} {
			if got := said(flow.Live(m, f)); got != c.want {
				t.Errorf("case %d: %s, want %s", i, got, c.want)
			}
		}
	}
}

// Many values, and a long way through the blocks from the definitions of values to their uses: along the numbers of the blocks, and against them.
func TestP4_5LiveLong(t *testing.T) {
	along := []int{}
	for b := range api.MaxBlocks {
		along = append(along, b)
	}
	against := slices.Clone(along)
	slices.Reverse(against[1:])
	const middle, end = 100, api.MaxBlocks - 1
	for _, way := range [][]int{along, against} {
		blocks := make([]api.Block, api.MaxBlocks)
		for i, b := range way[:end] {
			blocks[b] = block(slices.Repeat([]string{"i8"}, api.MaxList), leading(nil, way[i+1]))
		}
		used := []int{0, 99, way[middle]*api.MaxList + 7}
		blocks[way[end]] = block(slices.Repeat([]string{"i8"}, api.MaxList), op("t.a", append(used, way[end]*api.MaxList+50)))
		live, e := flow.Live(module(fn(blocks...)), 0)
		if e != api.OK {
			t.Fatal(e)
		}
		for i, b := range way {
			want := used
			if i <= middle {
				want = used[:2]
			}
			if i == 0 {
				want = nil
			}
			if !slices.Equal(live[b], want) {
				t.Errorf("live at the entry of %d: %v, want %v", b, live[b], want)
			}
		}
	}
}

// cleaned is a module without the uses of values that are not visible, as the second reading says.
func cleaned(m api.Module) api.Module {
	for f := range m.Ops {
		s := sightOf(m.Ops[f])
		for _, x := range operationsOf(m.Ops[f]) {
			hidden := func(v int) bool { return !s.isVisible(v, x.path) }
			x.op.Operands = slices.DeleteFunc(x.op.Operands, hidden)
			for k := range x.op.Succs {
				x.op.Succs[k].Args = slices.DeleteFunc(x.op.Succs[k].Args, hidden)
			}
		}
	}
	return m
}

// P4.7: if all uses are visible, no value lives at the entry of the entry block.
func TestP4_7(t *testing.T) {
	t.Parallel()
	alive := 0
	for seed := range uint64(1000) {
		m := cleaned(ranMaker(seed).module())
		for f := range m.Ops {
			for _, x := range operationsOf(m.Ops[f]) {
				for _, v := range usesOf(x.op) {
					if is, e := flow.Visible(m, f, v, x.path); !is || e != api.OK {
						t.Errorf("Visible(%s, %d, %d, %v): %v, %d", said(m), f, v, x.path, is, e)
					}
				}
			}
			live, e := flow.Live(m, f)
			if e != api.OK || len(live[0]) > 0 {
				t.Errorf("Live(%s, %d): %v, %d", said(m), f, live, e)
			}
			alive += len(slices.Concat(live...))
		}
	}
	if alive < 100 {
		t.Errorf("only %d values live at the entry of a block", alive)
	}
}
