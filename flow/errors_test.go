package flow_test

import (
	"fmt"
	"math"
	"reflect"
	"slices"
	"strings"
	"testing"

	"demotic/api"
	"demotic/flow"
	"demotic/ir"
)

// given are the arguments of a call.
type given struct {
	m    api.Module
	f    int
	path []int // of a region, or of an operation
	a, b int   // blocks; a is a value, too
}

// regionCalls has all calls that take the path of a region.
func regionCalls() map[string]func(g given) []any {
	return map[string]func(g given) []any{
		"Successors":   func(g given) []any { return results(flow.Successors(g.m, g.f, g.path)) },
		"Predecessors": func(g given) []any { return results(flow.Predecessors(g.m, g.f, g.path)) },
		"Reachable":    func(g given) []any { return results(flow.Reachable(g.m, g.f, g.path)) },
		"Order":        func(g given) []any { return results(flow.Order(g.m, g.f, g.path)) },
		"Dominators":   func(g given) []any { return results(flow.Dominators(g.m, g.f, g.path)) },
		"Dominates":    func(g given) []any { return results(flow.Dominates(g.m, g.f, g.path, g.a, g.b)) },
		"Frontier":     func(g given) []any { return results(flow.Frontier(g.m, g.f, g.path)) },
		"Loops":        func(g given) []any { return results(flow.Loops(g.m, g.f, g.path)) },
		"Reducible":    func(g given) []any { return results(flow.Reducible(g.m, g.f, g.path)) },
	}
}

// allCalls has all calls.
func allCalls() map[string]func(g given) []any {
	calls := regionCalls()
	calls["Visible"] = func(g given) []any { return results(flow.Visible(g.m, g.f, g.a, g.path)) }
	calls["Live"] = func(g given) []any { return results(flow.Live(g.m, g.f)) }
	return calls
}

func results(l ...any) []any { return l }

// failed tells whether results are an error, and a zero value beside it.
func failed(l []any, want api.Errno) bool {
	v := reflect.ValueOf(l[0])
	return l[1] == want && (v.IsZero() || v.Kind() == reflect.Slice && v.Len() == 0)
}

// extremes are numbers that are none of functions, blocks, values, or of steps of paths.
func extremes(count int) []int { return []int{-1, count, count + 1, math.MaxInt, math.MinInt} }

// formless are modules that do not have the right form.
func formless() []api.Module {
	circle := fn(block(nil, around(region(block(nil)))))
	circle.Regions[0].Blocks[0].Ops[0].Regions = circle.Regions
	noBlocks := fn(block(nil))
	noBlocks.Regions[0].Blocks = nil
	return []api.Module{
		module(fn(block(nil, leading(nil, 1)))),
		module(fn(block(nil, leading(nil, -1)))),
		module(fn(block(nil)), fn(block([]string{"i8"}, giving(0, 1)))),
		module(fn(block(nil, op("t.a", []int{0})))),
		module(fn(block([]string{"i65"}))),
		module(fn(block(nil, op("end", nil)))),
		module(fn(block(nil)), op("t.a", nil)),
		module(fn(block(nil)), op("func.func", nil)),
		module(noBlocks, fn(block(nil))),
		module(fn(make([]api.Block, api.MaxBlocks+1)...)),
		module(fn(block(nil, slices.Repeat([]api.Op{leading(nil, 0)}, api.MaxOps)...))),
		module(circle),
	}
}

// Chapter 3's errors come first: ErrForm, then ErrArg for the function, then ErrNone; and only then ErrArg for blocks.
func TestErrorsFirst(t *testing.T) {
	for name, call := range allCalls() {
		for i, m := range formless() {
			for _, f := range append(extremes(len(m.Ops)), 0) {
				for _, path := range [][]int{nil, {0, 0}, {-1}} {
					if got := call(given{m, f, path, -1, -1}); !failed(got, api.ErrForm) {
						t.Errorf("%s in function %d at %v of formless module %d: %v", name, f, path, i, got)
					}
				}
			}
		}
		for _, m := range append(modules()[:20], api.Module{}) {
			for _, f := range extremes(len(m.Ops)) {
				for _, path := range [][]int{nil, {0, 0}, {-1}} {
					if got := call(given{m, f, path, -1, -1}); !failed(got, api.ErrArg) {
						t.Errorf("%s in function %d at %v of %s: %v", name, f, path, said(m), got)
					}
				}
			}
		}
	}
}

// oddPaths are paths of operations and of regions, and others that look like them.
func oddPaths(f api.Op) [][]int {
	l := [][]int{nil, {}, {0}, {0, 0}, {0, 0, 0}, {-1}, {-1, -1}, {-1, 0, 0}, {math.MaxInt, math.MaxInt}, {math.MinInt, 0}, make([]int, 1000), make([]int, 1001), make([]int, 1002)}
	for _, x := range linesOf(f.Regions[0], nil) {
		for _, more := range [][]int{nil, {0}, {1}, {2}, {-1}, {0, 0}, {0, 7}, {7, 0}, {0, 0, 0}, {0, -1, 0}, {math.MaxInt}} {
			l = append(l, slices.Concat(x.path, more))
		}
		for i := range x.path {
			for _, n := range []int{-1, 1, 9, math.MaxInt, math.MinInt} {
				other := slices.Clone(x.path)
				other[i] += n
				l = append(l, x.path[:i], other)
			}
		}
	}
	return l
}

func TestNone(t *testing.T) {
	t.Parallel()
	for _, m := range modules()[:12] {
		for f, o := range m.Ops {
			isRegion, isOperation := map[string]bool{}, map[string]bool{}
			for _, x := range regionsOf(o) {
				isRegion[key(x.path)] = true
			}
			for _, x := range operationsOf(o) {
				isOperation[key(x.path)] = true
			}
			for _, path := range oddPaths(o) {
				for name, call := range regionCalls() {
					if got := call(given{m, f, path, 0, 0}); failed(got, api.ErrNone) == isRegion[key(path)] {
						t.Errorf("%s(%s, %d, %v): %v", name, said(m), f, path, got)
					}
				}
				if len(valuesOf(o)) == 0 {
					continue
				}
				if got := results(flow.Visible(m, f, 0, path)); failed(got, api.ErrNone) == isOperation[key(path)] {
					t.Errorf("Visible(%s, %d, 0, %v): %v", said(m), f, path, got)
				}
			}
		}
	}
}

// Numbers that are none of values or of blocks.
func TestNumbers(t *testing.T) {
	for _, m := range modules() {
		for f, o := range m.Ops {
			for _, x := range operationsOf(o) {
				for _, v := range extremes(len(valuesOf(o))) {
					if got := results(flow.Visible(m, f, v, x.path)); !failed(got, api.ErrNone) {
						t.Errorf("Visible(%s, %d, %d, %v): %v", said(m), f, v, x.path, got)
					}
				}
			}
			for _, x := range regionsOf(o) {
				blocks := len(x.region.Blocks)
				for _, b := range extremes(blocks) {
					for _, got := range [][]any{
						results(flow.Dominates(m, f, x.path, b, 0)),
						results(flow.Dominates(m, f, x.path, blocks-1, b)),
						results(flow.Dominates(m, f, x.path, b, b)),
					} {
						if !failed(got, api.ErrArg) {
							t.Errorf("Dominates(%s, %d, %v) of %d: %v", said(m), f, x.path, b, got)
						}
					}
				}
				if got := results(flow.Dominates(m, f, append([]int{-1}, x.path...), -1, blocks)); !failed(got, api.ErrNone) {
					t.Errorf("Dominates(%s, %d) at no region, of no blocks: %v", said(m), f, got)
				}
			}
		}
	}
}

// listsOf are all lists of a result that have numbers or truths, to the ends of their memory.
func listsOf(v reflect.Value) []reflect.Value {
	if v.Kind() != reflect.Slice || v.Len() == 0 {
		return nil
	}
	if v.Type().Elem().Kind() != reflect.Slice {
		return []reflect.Value{v.Slice(0, v.Cap())}
	}
	var l []reflect.Value
	for i := range v.Len() {
		l = append(l, listsOf(v.Index(i))...)
	}
	return l
}

// spoil sets all elements of a list of numbers to n, or turns all truths of it.
func spoil(l reflect.Value, n int) {
	for i := range l.Len() {
		if x := l.Index(i); x.Kind() == reflect.Int {
			x.SetInt(int64(n))
		} else {
			x.SetBool(!x.Bool())
		}
	}
}

// roomy is a copy with junk beyond the lengths of lists that say what leads where, and what is used.
func roomy(m api.Module) api.Module {
	for f := range m.Ops {
		for _, x := range operationsOf(m.Ops[f]) {
			x.op.Operands = append(x.op.Operands, 77)[:len(x.op.Operands)]
			for i := range x.op.Succs {
				x.op.Succs[i].Args = append(x.op.Succs[i].Args, 77)[:len(x.op.Succs[i].Args)]
			}
			x.op.Succs = append(x.op.Succs, api.Succ{Block: 77})[:len(x.op.Succs)]
		}
		for _, x := range regionsOf(m.Ops[f]) {
			for i := range x.region.Blocks {
				b := &x.region.Blocks[i]
				b.Ops = append(b.Ops, op("junk", nil))[:len(b.Ops)]
				b.Args = append(b.Args, "junk")[:len(b.Args)]
			}
		}
	}
	return m
}

// whole is what a value looks like, with what lies beyond the lengths of its slices.
func whole(v reflect.Value) string {
	s := ""
	switch v.Kind() {
	case reflect.Slice:
		s = fmt.Sprint(v.Len())
		for i := range v.Cap() {
			s += " " + whole(v.Slice(0, v.Cap()).Index(i))
		}
	case reflect.Struct:
		for i := range v.NumField() {
			s += whole(v.Field(i)) + ";"
		}
	default:
		s = fmt.Sprint(v.Interface())
	}
	return s
}

// Arguments are neither changed nor kept, what lies beyond the lengths of their slices is not read, and results are new memory (R4).
func TestMemory(t *testing.T) {
	t.Parallel()
	for seed := range uint64(60) {
		plain := ranMaker(seed).module()
		for _, x := range regionsOf(plain.Ops[0]) {
			blocks := len(x.region.Blocks)
			for name, call := range allCalls() {
				if name == "Visible" && len(x.region.Blocks[0].Ops) > 0 {
					x.path = slices.Concat(x.path, []int{0, 0})
				}
				path := append(slices.Clone(x.path), 77)
				g := given{roomy(ranMaker(seed).module()), 0, path[:len(x.path)], 0, blocks - 1}
				before := whole(reflect.ValueOf(g.m)) + said(path)
				want := said(call(given{plain, 0, x.path, 0, blocks - 1})...)
				got := call(g)
				lists := listsOf(reflect.ValueOf(got[0]))
				if said(got...) != want {
					t.Errorf("%s(%s, 0, %v): %v, and without room %s", name, said(plain), x.path, got, want)
				}
				for n, l := range lists {
					spoil(l, 1000+n)
				}
				for n, l := range lists {
					if l.Index(0).Kind() == reflect.Int && (l.Index(0).Int() != int64(1000+n) || l.Index(l.Len()-1).Int() != int64(1000+n)) {
						t.Errorf("%s(%s, 0, %v): two lists share memory", name, said(plain), x.path)
					}
				}
				if whole(reflect.ValueOf(g.m))+said(path) != before {
					t.Errorf("%s(%s, 0, %v): the arguments were changed", name, said(plain), x.path)
				}
				if again := said(call(g)...); again != want {
					t.Errorf("%s(%s, 0, %v): %s, and then %s", name, said(plain), x.path, want, again)
				}
			}
		}
	}
}

// FuzzCalls holds every call against the second reading, and against P1 and R7: it ends, does not panic, and says the same twice.
func FuzzCalls(f *testing.F) {
	for seed := range 40 {
		f.Add([]byte(strings.Repeat(fmt.Sprint(seed, "abc", seed*seed, "\x00\xff"), 20)), seed%3, seed%5, -1+seed%4)
	}
	f.Fuzz(func(t *testing.T, data []byte, number, a, b int) {
		next := func(n int) int {
			if len(data) == 0 {
				return 0
			}
			x := data[0]
			data = data[1:]
			return int(x) % n
		}
		k := &maker{next: next, budget: 12}
		m := k.module()
		for f, o := range m.Ops {
			for _, x := range regionsOf(o) {
				expect(t, place{m, f, x.path}, shapeOf(x.region))
			}
			expectValues(t, m, f)
		}
		var path []int
		for range next(9) {
			path = append(path, next(3))
		}
		if next(4) == 0 {
			leader := &m.Ops[0].Regions[0].Blocks[0]
			leader.Ops = append(leader.Ops, leading([]int{b}, a))
		}
		g := given{m, number, path, a, b}
		for name, call := range allCalls() {
			got := call(g)
			if said(got...) != said(call(g)...) {
				t.Errorf("%s of %s: two answers", name, said(g))
			}
			if e := ir.Check(m); e != api.OK && !failed(got, e) || got[1] != api.OK && !failed(got, got[1].(api.Errno)) {
				t.Errorf("%s of %s: %s", name, said(g), said(got...))
			}
		}
	})
}
