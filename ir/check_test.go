package ir_test

import (
	"fmt"
	"math"
	"reflect"
	"regexp"
	"slices"
	"strconv"
	"strings"
	"testing"

	"demotic/api"
	"demotic/attrs"
	"demotic/ir"
	"demotic/types"
)

// repeated is a list of n times the same.
func repeated[E any](n int, x E) []E { return slices.Repeat([]E{x}, n) }

// nested is an operation with n regions one inside of the other.
func nested(n int) api.Op {
	o := op("t.a", nil)
	for range n {
		o = around(op("t.a", nil), block(nil, o))
	}
	return o
}

func rowOf(n int) []api.Attr {
	var l []api.Attr
	for i := range n {
		l = append(l, api.Attr{Name: "a" + strconv.Itoa(1000+i)})
	}
	return l
}

// wrongOperations are wrong, wherever they stand in a function with one value, in a region with two blocks.
func wrongOperations() map[string]api.Op {
	all := map[string]api.Op{}
	for _, name := range []string{"", ".", "a", "a.", ".a", "..", "a..b", "a.b.", ".a.b", "a.b.c", "A.b", "a.B", "1.b", "a.1", "_.b", "a._b", "a b.c", "a.b ", " a.b", "a.b\n", "a-b.c", "a.b-c", "\u00e9.b", "a.\u00e9", "a.b\xff", "a,b", "a.b\x00", longestName + "a", "a." + strings.Repeat("b", 59), strings.Repeat("a", 59) + ".b", strings.Repeat("a", 1000) + ".b"} {
		all["name "+name] = op(name, nil)
	}
	for _, t := range []string{"", "x", "i0", "i65", "i8 ", "mem<1001xi8>", "!calc", "(i8)"} {
		all["result "+t] = op("t.a", nil, "i8", t)
		all["argument "+t] = around(op("t.a", nil), block([]string{"i8", t}))
	}
	for _, n := range []int{-1, 1, 2, 100, math.MaxInt, math.MinInt} {
		all["operand "+strconv.Itoa(n)] = op("t.a", []int{0, n})
		all["given "+strconv.Itoa(n)] = api.Op{Name: "t.a", Succs: []api.Succ{{Args: []int{0, n}}}}
	}
	for _, n := range []int{-1, 2, 3, math.MaxInt, math.MinInt} {
		all["successor "+strconv.Itoa(n)] = api.Op{Name: "t.a", Succs: []api.Succ{{}, {Block: n}}}
	}
	const long = api.MaxList + 1
	all["operands"] = op("t.a", repeated(long, 0))
	all["results"] = op("t.a", nil, repeated(long, "i8")...)
	all["attributes"] = api.Op{Name: "t.a", Attrs: rowOf(long)}
	all["regions"] = around(op("t.a", nil), repeated(long, block(nil))...)
	all["successors"] = api.Op{Name: "t.a", Succs: repeated(long, api.Succ{})}
	all["given"] = api.Op{Name: "t.a", Succs: []api.Succ{{Args: repeated(long, 0)}}}
	all["arguments"] = around(op("t.a", nil), block(repeated(long, "i8")))
	all["no blocks"] = api.Op{Name: "t.a", Regions: []api.Region{{}}}
	all["blocks"] = api.Op{Name: "t.a", Regions: []api.Region{{Blocks: make([]api.Block, api.MaxBlocks+1)}}}
	all["twice"] = api.Op{Name: "t.a", Attrs: []api.Attr{{Name: "a"}, {Name: "a"}}}
	all["falling"] = api.Op{Name: "t.a", Attrs: []api.Attr{{Name: "b"}, {Name: "a"}}}
	all["attribute"] = api.Op{Name: "t.a", Attrs: []api.Attr{{Name: "a", Kind: 6}}}
	all["no name"] = api.Op{Name: "t.a", Attrs: []api.Attr{{}}}
	// It is a right one of the region around it, but not of its own.
	all["other region"] = around(op("t.a", nil), block(nil, api.Op{Name: "t.a", Succs: []api.Succ{{Block: 1}}}))
	return all
}

// wrongModules do not have the right form, each for one reason.
func wrongModules() map[string]api.Module {
	all := map[string]api.Module{}
	for why, o := range wrongOperations() {
		all["first: "+why] = module(fn(block([]string{"i8"}, o), block(nil)))
		all["last: "+why] = module(fn(block(nil), block([]string{"i8"}, op("t.a", []int{0}), o)))
		all["function 1: "+why] = module(fn(block([]string{"i8", "i8"})), fn(block([]string{"i8"}), block(nil, o)))
		two := api.Op{Name: "t.a", Regions: []api.Region{{Blocks: []api.Block{block([]string{"i8"}), block(nil, o)}}}}
		all["inside: "+why] = alone(two)
		if o.Name != "t.a" {
			continue
		}
		o.Name = "func.func"
		if len(o.Operands)+len(o.Results)+len(o.Succs) == 0 {
			o.Regions = append(o.Regions, fn(block(nil)).Regions...)
			all["function: "+why] = module(fn(block(nil)), o)
		}
	}
	with := func(change func(f *api.Op)) api.Module {
		f := fn(block([]string{"i8"}))
		change(&f)
		return module(fn(block(nil)), f)
	}
	all["name"] = with(func(f *api.Op) { f.Name = "func.fun" })
	all["no name"] = with(func(f *api.Op) { f.Name = "" })
	all["operands"] = with(func(f *api.Op) { f.Operands = []int{0} })
	all["results"] = with(func(f *api.Op) { f.Results = []string{"i8"} })
	all["successors"] = with(func(f *api.Op) { f.Succs = []api.Succ{{}} })
	all["no region"] = with(func(f *api.Op) { f.Regions = nil })
	all["two regions"] = with(func(f *api.Op) { f.Regions = append(f.Regions, f.Regions...) })
	all["deep"] = alone(nested(api.MaxDepth))
	all["deep behind"] = alone(nested(2), nested(api.MaxDepth-1), op("t.a", nil), nested(api.MaxDepth))
	all["many"] = alone(repeated(api.MaxOps, op("t.a", nil))...)
	all["many functions"] = module(repeated(api.MaxOps+1, fn(block(nil)))...)
	all["many in functions"] = module(repeated(3, fn(block(nil, repeated(666, op("t.a", nil))...)))...)
	all["many inside"] = module(fn(block(nil, around(op("t.a", nil), block(nil, repeated(api.MaxOps-2, op("t.a", nil))...)), op("t.a", nil))))
	all["many blocks"] = module(fn(repeated(100, block(nil, repeated(20, op("t.a", nil))...))...))
	return all
}

// selfish are modules that contain themselves.
func selfish() []api.Module {
	var all []api.Module
	for _, wide := range []int{1, 5, 100} {
		regions := fn(repeated(3, block(nil, op("t.a", nil, "i8"), op("t.a", []int{0})))...).Regions
		regions[0].Blocks[1].Ops[0].Regions = slices.Repeat(regions, wide)
		all = append(all, api.Module{Ops: []api.Op{{Name: "func.func", Regions: regions}}})
	}
	ops := []api.Op{fn(block(nil)), fn(block(nil))}
	ops[1].Regions[0].Blocks[0].Ops = ops
	return append(all, api.Module{Ops: ops})
}

// largest are modules just within the limits.
func largest() []api.Module {
	full := op("t.a", repeated(api.MaxList, 0), repeated(api.MaxList, "i8")...)
	full.Attrs = rowOf(api.MaxList)
	full.Succs = repeated(api.MaxList, api.Succ{Block: api.MaxBlocks - 1, Args: repeated(api.MaxList, api.MaxList*2-1)})
	return []api.Module{
		alone(repeated(api.MaxOps-1, op("t.a", nil))...),
		module(repeated(api.MaxOps, fn(block(nil)))...),
		module(repeated(2, fn(block(nil, repeated(999, op("t.a", nil))...)))...),
		module(fn(block(nil, around(op("t.a", nil), block(nil, repeated(api.MaxOps-3, op("t.a", nil))...)), op("t.a", nil)))),
		alone(nested(api.MaxDepth - 1)),
		alone(repeated(150, nested(api.MaxDepth-1))...),
		module(fn(make([]api.Block, api.MaxBlocks)...)),
		module(fn(append([]api.Block{block(repeated(api.MaxList, "index"), full)}, make([]api.Block, api.MaxBlocks-1)...)...)),
		alone(around(op(longestName, nil), repeated(api.MaxList, block(repeated(api.MaxList, "i1")))...)),
	}
}

var operationName = regexp.MustCompile(`^[a-z][a-z0-9_]*\.[a-z][a-z0-9_]*$`)

// seen is an operation with what a second reading has to know of where it stands.
type seen struct {
	api.Op
	depth, blocks int
}

// flat are all operations of a region and all its blocks, and those inside of it.
func flat(r api.Region, depth int) (ops []seen, regions []api.Region) {
	regions = []api.Region{r}
	for _, b := range r.Blocks {
		for _, o := range b.Ops {
			ops = append(ops, seen{o, depth, len(r.Blocks)})
			for _, inner := range o.Regions {
				more, also := flat(inner, depth+1)
				ops, regions = append(ops, more...), append(regions, also...)
			}
		}
	}
	return ops, regions
}

// hasRightForm is a second reading of what the right form is, for modules that do not contain themselves.
func hasRightForm(m api.Module) bool {
	count := len(m.Ops)
	for _, f := range m.Ops {
		if f.Name != "func.func" || len(f.Operands)+len(f.Results)+len(f.Succs) > 0 || len(f.Regions) != 1 || attrs.Check(f.Attrs) != api.OK {
			return false
		}
		ops, regions := flat(f.Regions[0], 1)
		count += len(ops)
		values, typed := 0, true
		take := func(l []string) {
			values += len(l)
			typed = typed && len(l) <= 100 && !slices.ContainsFunc(l, func(t string) bool { return types.Check(t) != api.OK })
		}
		for _, r := range regions {
			typed = typed && len(r.Blocks) >= 1 && len(r.Blocks) <= 200
			for _, b := range r.Blocks {
				take(b.Args)
			}
		}
		for _, o := range ops {
			take(o.Results)
		}
		for _, o := range ops {
			if !o.isRight(values) {
				return false
			}
		}
		if !typed {
			return false
		}
	}
	return count <= 2000
}

// isRight tells whether an operation is right, but for its results and its regions.
func (o seen) isRight(values int) bool {
	for _, use := range usesOf(o.Op) {
		if len(use) > 100 || len(use) > 0 && (slices.Min(use) < 0 || slices.Max(use) >= values) {
			return false
		}
	}
	for _, s := range o.Succs {
		if s.Block < 0 || s.Block >= o.blocks {
			return false
		}
	}
	deepest := o.depth
	if len(o.Regions) > 0 {
		deepest++
	}
	return deepest <= 12 && len(o.Regions) <= 100 && len(o.Succs) <= 100 && attrs.Check(o.Attrs) == api.OK && len(o.Name) <= 60 && operationName.MatchString(o.Name)
}

// leaves are the numbers, strings and lists of a value, all of which can be set.
func leaves(v reflect.Value) []reflect.Value {
	var l []reflect.Value
	switch v.Kind() {
	case reflect.Struct:
		for i := range v.NumField() {
			l = append(l, leaves(v.Field(i))...)
		}
		return l
	case reflect.Slice:
		for i := range v.Len() {
			l = append(l, leaves(v.Index(i))...)
		}
	}
	return append(l, v)
}

// changeLeaf changes a number, a string or a list.
func changeLeaf(v reflect.Value, way int) {
	switch v.Kind() {
	case reflect.Slice:
		switch n := v.Len(); {
		case way == 0 && n > 0:
			v.Set(v.Slice(0, n-1))
		case n > 0:
			v.Set(reflect.Append(v, v.Index(0)))
		default:
			v.Set(reflect.MakeSlice(v.Type(), 1, 1))
		}
	case reflect.String:
		s := []byte(v.String() + "a")
		if n := len(s) - 1; n > 0 && way == 0 {
			s = s[:n]
			s[n-1]++
		}
		v.SetString(string(s))
	default:
		v.SetInt(v.Int() + []int64{1, -1}[way])
	}
}

// neighbours gives the modules that are one change away from m. It changes the same one back each time.
func neighbours(m api.Module, visit func(n api.Module)) {
	n := deep(m, 0)
	for _, leaf := range leaves(reflect.ValueOf(&n).Elem()) {
		before := reflect.New(leaf.Type()).Elem()
		before.Set(leaf)
		for way := range 2 {
			changeLeaf(leaf, way)
			visit(n)
			leaf.Set(before)
		}
	}
}

func TestP3_1Check(t *testing.T) {
	for _, m := range append(rightModules(), largest()...) {
		if e := ir.Check(m); e != api.OK || !hasRightForm(m) {
			t.Errorf("Check(%.500s): %d", said(m), e)
		}
	}
	for why, m := range wrongModules() {
		if e := ir.Check(m); e != api.ErrForm || hasRightForm(m) {
			t.Errorf("Check of a wrong module, %s: %d", why, e)
		}
	}
	for i, m := range selfish() {
		if e := ir.Check(m); e != api.ErrForm {
			t.Errorf("Check of a module that contains itself, %d: %d", i, e)
		}
	}
}

func TestP3_1Names(t *testing.T) {
	for _, name := range []string{"a.b", "func.func", "a1.b_", "a_.b9", longestName, "a." + strings.Repeat("b", 58), strings.Repeat("a", 58) + ".b"} {
		if e := ir.Check(alone(op(name, nil))); e != api.OK {
			t.Errorf("Check with %s: %d", name, e)
		}
	}
}

// All that is one change away from a right module is right, or not, as the second reading says, and not equal to it.
func TestP3_1Neighbours(t *testing.T) {
	t.Parallel()
	for _, m := range rightModules()[:30] {
		neighbours(m, func(n api.Module) {
			want := api.OK
			if !hasRightForm(n) {
				want = api.ErrForm
			}
			if e := ir.Check(n); e != want {
				t.Errorf("Check(%s): %d, want %d", said(n), e, want)
			}
			for _, got := range []string{said(ir.Equal(m, n)), said(ir.Equal(n, m))} {
				if got != said(false, want) {
					t.Errorf("Equal(%s, %s): %s, want false, %d", said(m), said(n), got, want)
				}
			}
		})
	}
}

func TestP3_1Equal(t *testing.T) {
	all := append(rightModules(), largest()...)
	for i, m := range all {
		if got := said(ir.Equal(m, deep(m, 2))); got != "true 0" {
			t.Errorf("Equal(%.500s, the same): %s", said(m), got)
		}
		n := all[(i+1)%len(all)]
		if got := said(ir.Equal(m, n)); got != "false 0" {
			t.Errorf("Equal(%.500s, %.500s): %s", said(m), said(n), got)
		}
	}
	empty := api.Op{Operands: []int{}, Results: []string{}, Attrs: []api.Attr{}, Regions: []api.Region{}, Succs: []api.Succ{}}
	for _, c := range []struct{ none, empty api.Module }{
		{api.Module{}, api.Module{Ops: []api.Op{}}},
		{alone(), alone([]api.Op{}...)},
		{module(fn(block(nil))), module(fn(block([]string{}, []api.Op{}...)))},
		{alone(op("t.a", nil)), alone(api.Op{Name: "t.a", Operands: empty.Operands, Results: empty.Results, Attrs: empty.Attrs, Regions: empty.Regions, Succs: empty.Succs})},
		{alone(api.Op{Name: "t.a", Succs: []api.Succ{{}}}), alone(api.Op{Name: "t.a", Succs: []api.Succ{{Args: []int{}}}})},
		{alone(api.Op{Name: "t.a", Attrs: []api.Attr{{Name: "a", Kind: api.Ints}}}), alone(api.Op{Name: "t.a", Attrs: []api.Attr{{Name: "a", Kind: api.Ints, Ints: []int64{}, Texts: []string{}}}})},
	} {
		if got := said(ir.Equal(c.none, c.empty)) + said(ir.Equal(c.empty, c.none)); got != "true 0true 0" {
			t.Errorf("Equal(%#v, %#v): %s", c.none, c.empty, got)
		}
	}
	for why, m := range wrongModules() {
		if got := said(ir.Equal(m, example())) + said(ir.Equal(example(), m)) + said(ir.Equal(m, m)); got != "false 30false 30false 30" {
			t.Errorf("Equal with a wrong module, %s: %s", why, got)
		}
	}
}

func TestP3_1Counts(t *testing.T) {
	for _, c := range []struct {
		m    api.Module
		want [5]int
	}{
		{api.Module{}, [5]int{}},
		{alone(), [5]int{1, 1, 1, 1, 0}},
		{example(), [5]int{1, 5, 2, 2, 5}},
		{module(example().Ops[0], alone().Ops[0], example().Ops[0]), [5]int{3, 11, 5, 5, 10}},
		{largest()[0], [5]int{1, 2000, 1, 1, 0}},
		{largest()[1], [5]int{2000, 2000, 2000, 2000, 0}},
		{largest()[4], [5]int{1, 13, 12, 12, 0}},
	} {
		if got, e := ir.Counts(c.m); got != c.want || e != api.OK {
			t.Errorf("Counts(%.500s): %v, %d, want %v", said(c.m), got, e, c.want)
		}
	}
	for _, m := range append(rightModules(), largest()...) {
		want := [5]int{len(m.Ops), len(m.Ops)}
		for _, f := range m.Ops {
			ops, regions := flat(f.Regions[0], 1)
			want[1] += len(ops)
			want[2] += len(regions)
			for _, r := range regions {
				want[3] += len(r.Blocks)
			}
			want[4] += len(typesOf(f))
		}
		if got, e := ir.Counts(m); got != want || e != api.OK {
			t.Errorf("Counts(%.500s): %v, %d, want %v", said(m), got, e, want)
		}
	}
}

// anyCalls are all calls that take a module and a function, with arguments that are right in each function that has an operation with a result, and another one behind it.
func anyCalls() map[string]func(m api.Module, f int) []any {
	first := []int{0, 0}
	return map[string]func(m api.Module, f int) []any{
		"Names":     func(m api.Module, f int) []any { return results(ir.Names(m, f)) },
		"Values":    func(m api.Module, f int) []any { return results(ir.Values(m, f)) },
		"Uses":      func(m api.Module, f int) []any { return results(ir.Uses(m, f)) },
		"Paths":     func(m api.Module, f int) []any { return results(ir.Paths(m, f)) },
		"At":        func(m api.Module, f int) []any { return results(ir.At(m, f, first)) },
		"Results":   func(m api.Module, f int) []any { return results(ir.Results(m, f, first)) },
		"Arguments": func(m api.Module, f int) []any { return results(ir.Arguments(m, f, nil, 0)) },
		"Source":    func(m api.Module, f int) []any { return results(ir.Source(m, f, 0)) },
		"Replace":   func(m api.Module, f int) []any { return results(ir.Replace(m, f, 0, 0)) },
		"Erase":     func(m api.Module, f int) []any { return results(ir.Erase(m, f, first)) },
		"Insert":    func(m api.Module, f int) []any { return results(ir.Insert(m, f, first, op("t.a", nil))) },
		"Swap":      func(m api.Module, f int) []any { return results(ir.Swap(m, f, first)) },
		// Other errors apply, too.
		"At none":            func(m api.Module, f int) []any { return results(ir.At(m, f, nil)) },
		"Results none":       func(m api.Module, f int) []any { return results(ir.Results(m, f, []int{-1})) },
		"Arguments none":     func(m api.Module, f int) []any { return results(ir.Arguments(m, f, []int{-1}, -1)) },
		"Source none":        func(m api.Module, f int) []any { return results(ir.Source(m, f, -1)) },
		"Replace none":       func(m api.Module, f int) []any { return results(ir.Replace(m, f, -1, math.MaxInt)) },
		"Erase none":         func(m api.Module, f int) []any { return results(ir.Erase(m, f, nil)) },
		"Insert none":        func(m api.Module, f int) []any { return results(ir.Insert(m, f, nil, op("t.a", nil))) },
		"Insert of nothing":  func(m api.Module, f int) []any { return results(ir.Insert(m, f, first, api.Op{})) },
		"Insert, both wrong": func(m api.Module, f int) []any { return results(ir.Insert(m, f, nil, api.Op{})) },
		"Swap none":          func(m api.Module, f int) []any { return results(ir.Swap(m, f, nil)) },
	}
}

func results(l ...any) []any { return l }

// failed tells whether results are an error, and zero values beside it.
func failed(l []any, want api.Errno) bool {
	for _, x := range l[:len(l)-1] {
		v := reflect.ValueOf(x)
		if !v.IsZero() && (v.Kind() != reflect.Slice || v.Len() > 0) {
			return false
		}
	}
	return l[len(l)-1] == want
}

// ErrForm comes before all other errors, and then ErrArg for the function.
func TestErrorsFirst(t *testing.T) {
	t.Parallel()
	for name, call := range anyCalls() {
		for why, m := range wrongModules() {
			for _, f := range []int{0, len(m.Ops) - 1, len(m.Ops), -1} {
				if got := call(m, f); !failed(got, api.ErrForm) {
					t.Errorf("%s in function %d of a wrong module, %s: %v", name, f, why, got)
				}
			}
		}
		for i, m := range selfish() {
			if got := call(m, 0); !failed(got, api.ErrForm) {
				t.Errorf("%s of a module that contains itself, %d: %v", name, i, got)
			}
		}
		for _, m := range append(rightModules()[:20], largest()[0]) {
			for _, f := range []int{-1, len(m.Ops), len(m.Ops) + 1, math.MaxInt, math.MinInt} {
				if got := call(m, f); !failed(got, api.ErrArg) {
					t.Errorf("%s in function %d of %d: %.500s", name, f, len(m.Ops), said(got...))
				}
			}
		}
	}
	if got := fmt.Sprint(ir.Counts(alone(op("", nil)))); got != "[0 0 0 0 0] 30" {
		t.Error(got)
	}
}
