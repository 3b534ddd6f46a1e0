package ir_test

import (
	"math"
	"slices"
	"testing"

	"demotic/api"
	"demotic/ir"
)

// same tells whether two lists have the same elements; nil and empty ones are the same.
func sameList[E comparable](l, m []E) bool { return slices.Equal(l, m) }

func samePaths(l, m [][]int) bool { return slices.EqualFunc(l, m, sameList) }

// key is a path as a string.
func key(path []int) string { return said(slices.Concat([]int{}, path)) }

// functions gives each function of the modules, with its number and a second reading of its lines.
func functions(modules []api.Module, visit func(m api.Module, f int, lines []line)) {
	for _, m := range modules {
		for f, o := range m.Ops {
			visit(m, f, linesOf(o))
		}
	}
}

// operationsOf are all operations inside of a region, in the order of the text.
func operationsOf(r api.Region) []api.Op {
	var l []api.Op
	for _, b := range r.Blocks {
		for _, o := range b.Ops {
			l = append(l, o)
			for _, inner := range o.Regions {
				l = append(l, operationsOf(inner)...)
			}
		}
	}
	return l
}

// numbersFrom are n numbers.
func numbersFrom(first, n int) []int {
	var l []int
	for i := range n {
		l = append(l, first+i)
	}
	return l
}

func TestExamples(t *testing.T) {
	m := example()
	for i, c := range [][2]string{
		{said(ir.Names(m, 0)), "[t.outer t.inner t.last t.end] 0"},
		{said(ir.Paths(m, 0)), "[[0 0] [0 0 0 0 0] [0 1] [0 2]] 0"},
		{said(ir.Values(m, 0)), "[i10 i1 i2 i3 i4] 0"},
		{said(ir.Uses(m, 0)), "[2 2 0 1 1] 0"},
		{said(ir.At(m, 0, []int{0, 1})), "{t.last [0] [i4] [] [] []} 0"},
		{said(ir.At(m, 0, []int{0, 0, 0, 0, 0})), "{t.inner [3 0] [] [] [] []} 0"},
		{said(ir.Results(m, 0, []int{0, 0})), "[2] 0"},
		{said(ir.Results(m, 0, []int{0, 2})), "[] 0"},
		{said(ir.Arguments(m, 0, nil, 0)), "[0 1] 0"},
		{said(ir.Arguments(m, 0, []int{0, 0, 0}, 0)), "[3] 0"},
		{said(ir.Source(m, 0, 1)), "[] 0 1 0"},
		{said(ir.Source(m, 0, 2)), "[0 0] -1 0 0"},
		{said(ir.Source(m, 0, 3)), "[0 0 0] 0 0 0"},
		{said(ir.Source(m, 0, 4)), "[0 1] -1 0 0"},
		{said(ir.Source(m, 0, 5)), "[] 0 0 4"},
		{said(ir.Results(m, 0, []int{0, 3})), "[] 4"},
		{said(ir.Names(alone(), 0)), "[] 0"},
		{said(ir.Values(alone(), 0)), "[] 0"},
		{said(ir.Uses(alone(), 0)), "[] 0"},
		{said(ir.Paths(alone(), 0)), "[] 0"},
	} {
		if c[0] != c[1] {
			t.Errorf("case %d: %s, want %s", i, c[0], c[1])
		}
	}
}

func TestP3_2Functions(t *testing.T) {
	t.Parallel()
	functions(append(rightModules(), largest()...), func(m api.Module, f int, lines []line) {
		var names, values []string
		var paths [][]int
		for _, o := range operationsOf(m.Ops[f].Regions[0]) {
			names = append(names, o.Name)
		}
		for _, l := range lines {
			values = append(values, l.defs...)
			if l.block < 0 {
				paths = append(paths, l.path)
			}
		}
		uses := make([]int, len(values))
		for _, l := range lines {
			for _, n := range slices.Concat(l.uses...) {
				uses[n]++
			}
		}
		if got, e := ir.Names(m, f); e != api.OK || !sameList(got, names) {
			t.Errorf("Names(%.900s, %d): %.500s, %d", said(m), f, said(got), e)
		}
		if got, e := ir.Paths(m, f); e != api.OK || !samePaths(got, paths) {
			t.Errorf("Paths(%.900s, %d): %.500s, %d", said(m), f, said(got), e)
		}
		if got, e := ir.Values(m, f); e != api.OK || !sameList(got, values) {
			t.Errorf("Values(%.900s, %d): %.500s, %d", said(m), f, said(got), e)
		}
		if got, e := ir.Uses(m, f); e != api.OK || !sameList(got, uses) {
			t.Errorf("Uses(%.900s, %d): %.500s, %d, want %.500s", said(m), f, said(got), e, said(uses))
		}
	})
}

func TestP3_3Places(t *testing.T) {
	t.Parallel()
	functions(rightModules(), func(m api.Module, f int, lines []line) {
		ops := operationsOf(m.Ops[f].Regions[0])
		for _, l := range lines {
			want := numbersFrom(l.first, len(l.defs))
			if l.block >= 0 {
				if got, e := ir.Arguments(m, f, l.path, l.block); e != api.OK || !sameList(got, want) {
					t.Errorf("Arguments(%s, %d, %v, %d): %v, %d, want %v", said(m), f, l.path, l.block, got, e, want)
				}
			} else {
				if got, e := ir.Results(m, f, l.path); e != api.OK || !sameList(got, want) {
					t.Errorf("Results(%s, %d, %v): %v, %d, want %v", said(m), f, l.path, got, e, want)
				}
				if got, e := ir.At(m, f, l.path); e != api.OK || said(got) != said(ops[0]) {
					t.Errorf("At(%s, %d, %v): %v, %d, want %v", said(m), f, l.path, got, e, ops[0])
				}
				ops = ops[1:]
			}
			for i, n := range want {
				if path, block, index, e := ir.Source(m, f, n); e != api.OK || !sameList(path, l.path) || block != l.block || index != i {
					t.Errorf("Source(%s, %d, %d): %v, %d, %d, %d, want %v, %d, %d", said(m), f, n, path, block, index, e, l.path, l.block, i)
				}
			}
		}
	})
}

// oddPaths are paths of operations and of regions, and others that look like them.
func oddPaths(lines []line) [][]int {
	l := [][]int{nil, {}, {0}, {0, 0}, {0, 0, 0}, {-1}, {-1, -1}, {math.MaxInt, math.MaxInt}, {math.MinInt, 0}, make([]int, 1000), make([]int, 1001), make([]int, 1002)}
	for _, x := range lines[:min(len(lines), 25)] {
		for _, more := range [][]int{nil, {0}, {1}, {2}, {-1}, {0, 0}, {0, 7}, {7, 0}, {0, 0, 0}, {0, -1, 0}, {math.MaxInt}} {
			l = append(l, slices.Concat(x.path, more))
		}
		for i := range x.path {
			l = append(l, x.path[:i])
			for _, n := range []int{-1, 1, 9, math.MaxInt, math.MinInt} {
				other := slices.Clone(x.path)
				other[i] += n
				l = append(l, other)
			}
		}
	}
	return l
}

// Paths that are none of operations or regions, and numbers that are none of blocks and values, are ErrNone, before the errors of an operation that is to be inserted.
func TestP3_3None(t *testing.T) {
	t.Parallel()
	functions(rightModules()[:9], func(m api.Module, f int, lines []line) {
		operations, blocks := map[string]line{}, map[string]int{}
		for _, l := range lines {
			if l.block < 0 {
				operations[key(l.path)] = l
			} else {
				blocks[key(l.path)] = l.region
			}
		}
		for _, path := range oddPaths(lines) {
			x, found := operations[key(path)]
			calls := map[string][]any{
				"At":      results(ir.At(m, f, path)),
				"Results": results(ir.Results(m, f, path)),
				"Erase":   results(ir.Erase(m, f, path)),
				"Insert":  results(ir.Insert(m, f, path, api.Op{})),
				"Swap":    results(ir.Swap(m, f, path)),
			}
			for name, got := range calls {
				none := !found || name == "Swap" && path[len(path)-1] == x.beside-1
				if failed(got, api.ErrNone) != none {
					t.Errorf("%s(%s, %d, %v): %v, want ErrNone: %v", name, said(m), f, path, got, none)
				}
			}
			for _, n := range []int{-1, 0, 1, 2, 3, math.MaxInt, math.MinInt} {
				want := n >= 0 && n < blocks[key(path)]
				if got := results(ir.Arguments(m, f, path, n)); failed(got, api.ErrNone) == want {
					t.Errorf("Arguments(%s, %d, %v, %d): %v, want ErrNone: %v", said(m), f, path, n, got, !want)
				}
			}
		}
		count := len(typesOf(m.Ops[f]))
		for _, n := range []int{-1, count, count + 1, math.MaxInt, math.MinInt} {
			for name, got := range map[string][]any{
				"Source":       results(ir.Source(m, f, n)),
				"Replace from": results(ir.Replace(m, f, n, 0)),
				"Replace to":   results(ir.Replace(m, f, 0, n)),
				"Replace":      results(ir.Replace(m, f, n, n)),
			} {
				if !failed(got, api.ErrNone) {
					t.Errorf("%s(%s, %d, %d): %v", name, said(m), f, n, got)
				}
			}
		}
	})
}

func TestP3_5(t *testing.T) {
	t.Parallel()
	for _, m := range rightModules() {
		for f, o := range m.Ops {
			one := module(o)
			names, _ := ir.Names(m, f)
			paths, _ := ir.Paths(m, f)
			counts, e := ir.Counts(one)
			if e != api.OK || len(names) != len(paths) || len(names) != counts[1]-1 {
				t.Errorf("%s: %d names, %d paths, %v", said(one), len(names), len(paths), counts)
			}
			sum := 0
			uses, _ := ir.Uses(m, f)
			for _, n := range uses {
				sum += n
			}
			for _, path := range paths {
				x, _ := ir.At(m, f, path)
				sum -= len(slices.Concat(usesOf(x)...))
				numbers, _ := ir.Results(m, f, path)
				for i, n := range numbers {
					if from, block, index, e := ir.Source(m, f, n); e != api.OK || !sameList(from, path) || block != -1 || index != i {
						t.Errorf("Source of result %d at %v of %s: %v, %d, %d, %d", i, path, said(one), from, block, index, e)
					}
				}
			}
			if sum != 0 {
				t.Errorf("the uses of %s differ by %d", said(one), sum)
			}
		}
	}
}
