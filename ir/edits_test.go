package ir_test

import (
	"math"
	"slices"
	"strconv"
	"testing"

	"demotic/api"
	"demotic/ir"
)

// edited tells whether a module is m, but for a function that has these plain lines.
func edited(n, m api.Module, f int, want []string) bool {
	if len(n.Ops) != len(m.Ops) || !hasRightForm(n) {
		return false
	}
	for i := range m.Ops {
		if i != f && said(n.Ops[i]) != said(m.Ops[i]) {
			return false
		}
	}
	return said(n.Ops[f].Name, n.Ops[f].Attrs) == said(m.Ops[f].Name, m.Ops[f].Attrs) && sameList(plain(n.Ops[f]), want)
}

func TestEditExamples(t *testing.T) {
	m := example()
	m.Ops[0].Regions[0].Blocks[0].Ops[0].Regions[0].Blocks[0].Ops[0].Operands = []int{3, 4}
	for i, c := range [][2]string{
		{said(ir.Erase(m, 0, []int{0, 0})), "{[{func.func [] [] [] [{[{[i10 i1] [{t.last [0] [i4] [] [] []} {t.end [2 1] [] [] [] []}]}]}] []}]} 0"},
		{said(ir.Erase(m, 0, []int{0, 1})), "{[]} 5"},
		{said(ir.Erase(m, 0, []int{0, 0, 0, 0, 0})), "{[]} 5"},
		{said(ir.Swap(m, 0, []int{0, 0})), "{[{func.func [] [] [] [{[{[i10 i1] [{t.last [0] [i4] [] [] []} {t.outer [1] [i2] [] [{[{[i3] [{t.inner [4 2] [] [] [] []}]}]}] []} {t.end [2 1] [] [] [] []}]}]}] []}]} 0"},
		{said(ir.Replace(m, 0, 4, 0)), "{[{func.func [] [] [] [{[{[i10 i1] [{t.outer [1] [i2] [] [{[{[i3] [{t.inner [3 0] [] [] [] []}]}]}] []} {t.last [0] [i4] [] [] []} {t.end [0 1] [] [] [] []}]}]}] []}]} 0"},
		{said(ir.Insert(m, 0, []int{0, 0}, op("t.new", []int{4, 0}, "i5", "i6"))), "{[{func.func [] [] [] [{[{[i10 i1] [{t.new [6 0] [i5 i6] [] [] []} {t.outer [1] [i2] [] [{[{[i3] [{t.inner [5 6] [] [] [] []}]}]}] []} {t.last [0] [i4] [] [] []} {t.end [6 1] [] [] [] []}]}]}] []}]} 0"},
	} {
		if c[0] != c[1] {
			t.Errorf("case %d: %s, want %s", i, c[0], c[1])
		}
	}
}

func TestP3_4Replace(t *testing.T) {
	t.Parallel()
	functions(rightModules()[:60], func(m api.Module, f int, lines []line) {
		types := typesOf(m.Ops[f])
		for from := range types {
			for _, to := range []int{0, from, len(types) - 1, (from*7 + 3) % len(types)} {
				var want []string
				for _, l := range lines {
					want = append(want, l.plain(types, func(used string) string {
						if used == types[from] {
							return types[to]
						}
						return used
					}))
				}
				if n, e := ir.Replace(m, f, from, to); e != api.OK || !edited(n, m, f, want) {
					t.Errorf("Replace(%s, %d, %d, %d): %s, %d", said(m), f, from, to, said(n), e)
				}
			}
		}
	})
}

// needed tells whether lines outside of a part use a value that is defined in it.
func needed(lines []line, from, to int) bool {
	low, high := lines[from].first, math.MaxInt
	if to < len(lines) {
		high = lines[to].first
	}
	for _, l := range slices.Concat(lines[:from], lines[to:]) {
		for _, n := range slices.Concat(l.uses...) {
			if n >= low && n < high {
				return true
			}
		}
	}
	return false
}

func TestP3_4Erase(t *testing.T) {
	t.Parallel()
	erased, refused, last := 0, 0, 0
	functions(rightModules(), func(m api.Module, f int, lines []line) {
		for _, l := range operationLines(m.Ops[f]) {
			n, e := ir.Erase(m, f, l.path)
			from, to := at(m.Ops[f], l.path)
			if l.beside == 1 || needed(lines, from, to) {
				if !failed(results(n, e), api.ErrState) {
					t.Errorf("Erase(%s, %d, %v): %s, %d, want ErrState", said(m), f, l.path, said(n), e)
				}
				refused++
				if l.beside == 1 && !needed(lines, from, to) {
					last++
				}
				continue
			}
			if want := slices.Delete(plain(m.Ops[f]), from, to); e != api.OK || !edited(n, m, f, want) {
				t.Errorf("Erase(%s, %d, %v): %s, %d", said(m), f, l.path, said(n), e)
			}
			erased++
		}
	})
	if erased < 300 || refused < 300 || last < 50 {
		t.Error(erased, refused, last)
	}
}

func TestP3_4EraseState(t *testing.T) {
	inner := around(op("t.a", []int{0}, "i2"), block([]string{"i3"}, op("t.b", []int{1, 2, 3}, "i4")))
	with := func(last api.Op) api.Module { return module(fn(block([]string{"i1"}, inner, last), block(nil))) }
	for i, c := range []struct {
		m    api.Module
		path []int
		want api.Errno
	}{
		{with(op("t.c", []int{0})), []int{0, 0}, api.OK},
		{with(op("t.c", []int{0, 4}, "i5")), []int{0, 0}, api.OK},
		{with(op("t.c", []int{0, 4}, "i5")), []int{0, 1}, api.OK},
		{with(op("t.c", []int{1})), []int{0, 0}, api.ErrState},
		{with(op("t.c", []int{2})), []int{0, 0}, api.ErrState},
		{with(op("t.c", []int{3})), []int{0, 0}, api.ErrState},
		{with(api.Op{Name: "t.c", Succs: []api.Succ{{Block: 1}, {Block: 1, Args: []int{0, 3}}}}), []int{0, 0}, api.ErrState},
		{with(api.Op{Name: "t.c", Succs: []api.Succ{{Block: 1, Args: []int{0}}}}), []int{0, 0}, api.OK},
		{with(op("t.c", nil)), []int{0, 0, 0, 0, 0}, api.ErrState},
		{alone(op("t.a", nil)), []int{0, 0}, api.ErrState},
		{alone(op("t.a", nil), op("t.b", nil)), []int{0, 0}, api.OK},
		{alone(op("t.a", nil), op("t.b", nil)), []int{0, 1}, api.OK},
		// A use before the definition is one, too.
		{alone(op("t.a", []int{0}), op("t.b", nil, "i1"), op("t.c", nil)), []int{0, 1}, api.ErrState},
		{alone(op("t.a", nil), op("t.b", []int{0}, "i1"), op("t.c", nil)), []int{0, 1}, api.OK},
	} {
		n, e := ir.Erase(c.m, 0, c.path)
		if e != c.want || e != api.OK && !failed(results(n, e), e) {
			t.Errorf("case %d: %s, %d, want %d", i, said(n), e, c.want)
		}
	}
}

func TestP3_4Insert(t *testing.T) {
	t.Parallel()
	k := ranMaker(9)
	functions(rightModules(), func(m api.Module, f int, lines []line) {
		types := typesOf(m.Ops[f])
		for _, l := range operationLines(m.Ops[f]) {
			o := k.inserted(l.region, len(types))
			for i := range o.Results {
				o.Results[i] = "!new.n" + strconv.Itoa(i)
			}
			row := line{depth: l.depth, what: whatOf(o), defs: o.Results, uses: usesOf(o)}
			from, _ := at(m.Ops[f], l.path)
			want := slices.Insert(plain(m.Ops[f]), from, row.plain(types, same))
			if n, e := ir.Insert(m, f, l.path, o); e != api.OK || !edited(n, m, f, want) {
				t.Errorf("Insert(%s, %d, %v, %s): %s, %d", said(m), f, l.path, said(o), said(n), e)
			}
		}
	})
}

// A function with one value in a region with two blocks, and an operation in each of them and inside of the first one.
func small() api.Module {
	return module(fn(block(nil)), fn(block([]string{"i1"}, around(op("t.a", nil), block(nil, op("t.b", nil)))), block(nil, op("t.c", nil))))
}

func TestP3_4InsertArg(t *testing.T) {
	all := wrongOperations()
	all["regions"] = around(op("t.a", nil), block(nil))
	all["a region"] = api.Op{Name: "t.a", Regions: []api.Region{{}}}
	all["its own result"] = op("t.a", []int{0, 1}, "i8", "i8")
	all["its own result given"] = api.Op{Name: "t.a", Results: []string{"i8"}, Succs: []api.Succ{{Args: []int{1}}}}
	all["nothing"] = api.Op{}
	for why, o := range all {
		for _, path := range [][]int{{0, 0}, {1, 0}, {0, 0, 0, 0, 0}} {
			if got := results(ir.Insert(small(), 1, path, o)); !failed(got, api.ErrArg) {
				t.Errorf("Insert at %v, %s: %.500s", path, why, said(got...))
			}
		}
		if got := results(ir.Insert(small(), 1, []int{0, 1}, o)); !failed(got, api.ErrNone) {
			t.Errorf("Insert nowhere, %s: %.500s", why, said(got...))
		}
		if got := results(ir.Insert(largest()[0], 0, []int{0, 9}, o)); !failed(got, api.ErrArg) {
			t.Errorf("Insert in a full module, %s: %.500s", why, said(got...))
		}
	}
	// The block is one of the region around it, but not of its own.
	jump := api.Op{Name: "t.a", Succs: []api.Succ{{Block: 1}}}
	for _, c := range []struct {
		path []int
		want api.Errno
	}{{[]int{0, 0}, api.OK}, {[]int{1, 0}, api.OK}, {[]int{0, 0, 0, 0, 0}, api.ErrArg}} {
		if n, e := ir.Insert(small(), 1, c.path, jump); e != c.want || (e == api.OK) != (len(n.Ops) > 0) {
			t.Errorf("Insert at %v: %d, want %d", c.path, e, c.want)
		}
	}
}

func TestP3_4InsertLargest(t *testing.T) {
	o := op(longestName, repeated(api.MaxList, 0), repeated(api.MaxList, "i8")...)
	o.Attrs = rowOf(api.MaxList)
	o.Succs = repeated(api.MaxList, api.Succ{Block: 1, Args: repeated(api.MaxList, 0)})
	if n, e := ir.Insert(small(), 1, []int{1, 0}, o); e != api.OK || said(n.Ops[1].Regions[0].Blocks[1].Ops) != said([]api.Op{o, op("t.c", nil)}) {
		t.Errorf("%.500s, %d", said(n), e)
	}
	// Deeper than any region can be made.
	deepest := alone(nested(api.MaxDepth - 1))
	path := []int{0, 0}
	for range api.MaxDepth - 1 {
		path = append(path, 0, 0, 0)
	}
	if n, e := ir.Insert(deepest, 0, path, op("t.b", nil)); e != api.OK || !hasRightForm(n) {
		t.Errorf("%.500s, %d", said(n), e)
	}
}

func TestP3_4InsertLarge(t *testing.T) {
	full := map[string]api.Module{
		"in a block":  alone(repeated(api.MaxOps-1, op("t.a", nil))...),
		"inside":      alone(around(op("t.a", nil), block(nil, repeated(api.MaxOps-2, op("t.a", nil))...))),
		"functions":   module(append(repeated(api.MaxOps-2, fn(block(nil))), fn(block(nil, op("t.a", nil))))...),
		"in another":  module(fn(block(nil, repeated(api.MaxOps-3, op("t.a", nil))...)), fn(block(nil, op("t.a", nil)))),
		"some inside": module(fn(block(nil, repeated(1000, op("t.a", nil))...)), fn(block(nil, around(op("t.a", nil), block(nil, repeated(997, op("t.a", nil))...))))),
	}
	for why, m := range full {
		last := len(m.Ops) - 1
		if got := results(ir.Insert(m, last, []int{0, 0}, op("t.b", nil))); !failed(got, api.ErrLarge) {
			t.Errorf("Insert in a full module, %s: %d", why, got[1])
		}
		if got := results(ir.Insert(m, last, []int{0, 0}, op("t.b", []int{0}))); !failed(got, api.ErrArg) {
			t.Errorf("Insert in a full module, %s: %d", why, got[1])
		}
		if got := results(ir.Insert(m, last, []int{0, -1}, op("t.b", nil))); !failed(got, api.ErrNone) {
			t.Errorf("Insert in a full module, %s: %d", why, got[1])
		}
	}
	// One less is not too large, and the one that is put in is the last one.
	m := alone(repeated(api.MaxOps-2, op("t.a", nil))...)
	n, e := ir.Insert(m, 0, []int{0, 0}, op("t.b", nil))
	if e != api.OK || ir.Check(n) != api.OK || len(n.Ops[0].Regions[0].Blocks[0].Ops) != api.MaxOps-1 {
		t.Error(e)
	}
	if _, e := ir.Insert(n, 0, []int{0, 0}, op("t.b", nil)); e != api.ErrLarge {
		t.Error(e)
	}
}

func TestP3_4Swap(t *testing.T) {
	t.Parallel()
	swapped := 0
	functions(rightModules(), func(m api.Module, f int, lines []line) {
		for _, l := range operationLines(m.Ops[f]) {
			n, e := ir.Swap(m, f, l.path)
			next := slices.Clone(l.path)
			next[len(next)-1]++
			if next[len(next)-1] == l.beside {
				if !failed(results(n, e), api.ErrNone) {
					t.Errorf("Swap(%s, %d, %v): %s, %d", said(m), f, l.path, said(n), e)
				}
				continue
			}
			from, middle := at(m.Ops[f], l.path)
			_, to := at(m.Ops[f], next)
			all := plain(m.Ops[f])
			want := slices.Concat(all[:from], all[middle:to], all[from:middle], all[to:])
			if e != api.OK || !edited(n, m, f, want) {
				t.Errorf("Swap(%s, %d, %v): %s, %d", said(m), f, l.path, said(n), e)
			}
			swapped++
		}
	})
	if swapped < 500 {
		t.Error(swapped)
	}
}

func TestP3_6ThereAndBack(t *testing.T) {
	t.Parallel()
	k := ranMaker(11)
	back := func(what string, m, n api.Module, e api.Errno) {
		if same, f := ir.Equal(m, n); e != api.OK || f != api.OK || !same || said(m) != said(n) {
			t.Errorf("%s of %s: %s, %d", what, said(m), said(n), e)
		}
	}
	functions(rightModules()[:100], func(m api.Module, f int, lines []line) {
		values := len(typesOf(m.Ops[f]))
		for _, l := range operationLines(m.Ops[f]) {
			n, e := ir.Insert(m, f, l.path, k.inserted(l.region, values))
			if e == api.OK {
				n, e = ir.Erase(n, f, l.path)
			}
			back("Erase of what was inserted", m, n, e)
			if l.path[len(l.path)-1] < l.beside-1 {
				n, e = ir.Swap(m, f, l.path)
				if e == api.OK {
					n, e = ir.Swap(n, f, l.path)
				}
				back("Swap twice", m, n, e)
			}
		}
		for from := range values {
			n, e := ir.Replace(m, f, from, from)
			back("Replace by itself", m, n, e)
			to := (from + 1) % values
			if to == from {
				continue
			}
			n, e = ir.Replace(m, f, from, to)
			before, _ := ir.Uses(m, f)
			after, _ := ir.Uses(n, f)
			if e != api.OK || after[from] != 0 || after[to] != before[from]+before[to] {
				t.Errorf("Replace(%s, %d, %d, %d): %d, %v, %v", said(m), f, from, to, e, before, after)
			}
		}
	})
}
