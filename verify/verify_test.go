package verify_test

import (
	"fmt"
	"math"
	"reflect"
	"slices"
	"strings"
	"testing"

	"demotic/api"
	"demotic/dialect"
	"demotic/flow"
	"demotic/ir"
	"demotic/verify"
)

// expectReading holds all calls for a module against the second reading, and P6.4, if it is right. It tells the first error.
func expectReading(t *testing.T, m api.Module, l []dialect.Dialect) api.Errno {
	t.Helper()
	if e := ir.Check(m); e != api.OK {
		expectError(t, given{m, l, 0}, e)
		return e
	}
	got, want := everyFault(t, m, l), faultsOf(m, l)
	if written(got) != written(want) {
		t.Errorf("All of %s: %s, want %s", said(m), written(got), written(want))
	}
	if len(got) > 0 {
		return got[0].Errno
	}
	expectVisible(t, m)
	return api.OK
}

// expectVisible: in a right module each use of a value is visible, and no value lives at the entry of a function.
func expectVisible(t *testing.T, m api.Module) {
	t.Helper()
	for f := range m.Ops {
		for _, x := range placesOf(m, nil, f) {
			if x.usesHidden() {
				t.Errorf("%s is right, but uses what is not visible at %d %v", said(m), f, x.path)
			}
		}
		if live, e := flow.Live(m, f); e != api.OK || len(live[0]) > 0 {
			t.Errorf("%s is right, but %v live at the entry of function %d", said(m), live[0], f)
		}
	}
}

// Modules that are made right.
func TestRightModules(t *testing.T) {
	t.Parallel()
	names := map[string]int{}
	for seed := range uint64(500) {
		m := ranMaker(seed).module()
		if e := expectReading(t, m, others()); e != api.OK {
			f, path, _ := verify.Where(m, others())
			t.Fatalf("%d in %d %v of %s", e, f, path, said(m))
		}
		for _, o := range operationsOf(m) {
			names[o.Name]++
		}
	}
	for _, name := range elsewhere {
		if _, e := dialect.Find(others(), name); e == api.OK && names[name] == 0 && name != "toy.last" {
			t.Errorf("no module has %s", name)
		}
	}
}

// Modules one to three changes away from right ones.
func TestChangedModules(t *testing.T) {
	t.Parallel()
	count := map[api.Errno]int{}
	for seed := range uint64(5000) {
		k := ranMaker(seed)
		m := k.module()
		for range 1 + seed%3 {
			k.change(&m)
		}
		e := expectReading(t, m, others())
		count[e]++
		if seed%4 == 0 {
			expectReading(t, m, nil)
		}
	}
	for _, e := range []api.Errno{api.OK, api.ErrForm, api.ErrOp, api.ErrShape, api.ErrTypes, api.ErrOrder, api.ErrEnd, api.ErrSymbol} {
		if count[e] < 50 {
			t.Errorf("%d modules have the error %d", count[e], e)
		}
	}
}

// given are the arguments of a call.
type given struct {
	M api.Module
	L []dialect.Dialect
	F int
}

// everyCall has all calls, with what they make of their arguments.
func everyCall() map[string]func(g given) []any {
	return map[string]func(g given) []any{
		"Check":    func(g given) []any { return results(verify.Check(g.M, g.L)) },
		"Where":    func(g given) []any { return results(verify.Where(g.M, g.L)) },
		"Function": func(g given) []any { return results(verify.Function(g.M, g.L, g.F)) },
		"All":      func(g given) []any { return results(verify.All(g.M, g.L)) },
		"IsCore":   func(g given) []any { return results(verify.IsCore(g.M)) },
	}
}

func results(l ...any) []any { return l }

// isEmpty tells whether a result is a zero value or an empty list.
func isEmpty(x any) bool {
	v := reflect.ValueOf(x)
	return v.IsZero() || v.Kind() == reflect.Slice && v.Len() == 0
}

// expectError: all calls return the error, and zero values beside it. (IsCore takes no dialects.)
func expectError(t *testing.T, g given, want api.Errno) {
	t.Helper()
	for name, call := range everyCall() {
		got := call(g)
		last := len(got) - 1
		if name == "IsCore" && want == api.ErrDialect {
			continue
		}
		if got[last] != want || slices.ContainsFunc(got[:last], func(x any) bool { return !isEmpty(x) }) {
			t.Errorf("%s of %s: %s, want %d", name, said(g), said(got...), want)
		}
	}
}

// formless are modules that do not have the right form.
func formless() []api.Module {
	right := func() api.Module {
		return read("fn f -> { i1\nscf.if 0 {\nscf.yield\n} {\nscf.yield\n}\ncf.br ^1\n^\nfunc.return\n}")
	}
	var l []api.Module
	for _, change := range []func(m *api.Module, body []api.Block){
		func(m *api.Module, body []api.Block) { body[0].Ops[0].Operands[0] = 1 },
		func(m *api.Module, body []api.Block) { body[0].Ops[0].Operands[0] = -1 },
		func(m *api.Module, body []api.Block) { body[0].Ops[0].Name = "if" },
		func(m *api.Module, body []api.Block) { body[0].Ops[1].Succs[0].Block = 2 },
		func(m *api.Module, body []api.Block) { body[0].Args[0] = "i0" },
		func(m *api.Module, body []api.Block) { body[0].Ops[0].Regions[0].Blocks = nil },
		func(m *api.Module, body []api.Block) { body[0].Ops[0].Regions = m.Ops[0].Regions },
		func(m *api.Module, body []api.Block) { body[1].Ops = slices.Repeat(body[1].Ops, api.MaxOps) },
		func(m *api.Module, body []api.Block) { m.Ops[0].Regions[0].Blocks = make([]api.Block, api.MaxBlocks+1) },
		func(m *api.Module, body []api.Block) { m.Ops[0].Name = "toy.use" },
		func(m *api.Module, body []api.Block) { m.Ops[0].Regions = nil },
		func(m *api.Module, body []api.Block) { slices.Reverse(m.Ops[0].Attrs) },
		func(m *api.Module, body []api.Block) { m.Ops[0].Operands = []int{0} },
		func(m *api.Module, body []api.Block) { m.Ops = append(m.Ops, api.Op{}) },
	} {
		m := right()
		change(&m, m.Ops[0].Regions[0].Blocks)
		l = append(l, m)
	}
	return l
}

// notRight are lists of dialects that are not right.
func notRight() [][]dialect.Dialect {
	return [][]dialect.Dialect{
		{{}},
		{{Name: "arith"}},
		{{Name: "b"}, {Name: "a"}},
		{{Name: "a"}, {Name: "a"}},
		{{Name: "toy", Types: words("b a")}},
		{{Name: "toy", Ops: []dialect.Def{{Name: "f", In: words("a")}}}},
		slices.Concat(others(), others()),
	}
}

// ErrDialect comes first, then ErrForm, then ErrArg for the function, and only then the errors of operations.
func TestErrorsFirst(t *testing.T) {
	wrong := read("fn f -> {\nno.such\n}\nfn f -> {\nfunc.return\n}")
	for _, l := range notRight() {
		for _, m := range append(formless(), wrong, read("fn f -> {\nfunc.return\n}"), api.Module{}) {
			for _, f := range []int{0, -1, 2} {
				expectError(t, given{m, l, f}, api.ErrDialect)
			}
		}
	}
	for i, m := range formless() {
		for _, f := range []int{0, -1, 1, 2, math.MaxInt} {
			expectError(t, given{m, others(), f}, api.ErrForm)
			expectError(t, given{m, nil, f}, api.ErrForm)
		}
		if got := said(verify.IsCore(m)); got != "false 30" {
			t.Errorf("IsCore of formless module %d: %s", i, got)
		}
	}
	for _, f := range []int{-1, 2, 3, math.MaxInt, math.MinInt} {
		if e := verify.Function(wrong, others(), f); e != api.ErrArg {
			t.Errorf("Function %d of 2: %d", f, e)
		}
	}
	for _, f := range []int{-1, 0, 1} {
		if e := verify.Function(api.Module{}, nil, f); e != api.ErrArg {
			t.Errorf("Function %d of none: %d", f, e)
		}
	}
	if got := said(verify.Where(api.Module{}, nil)); got != "0 [] 0" {
		t.Errorf("Where of an empty module: %s", got)
	}
	if got := said(verify.IsCore(api.Module{})); got != "true 0" {
		t.Errorf("IsCore of an empty module: %s", got)
	}
}

// P6.1 with errors in several functions.
func TestP6_1(t *testing.T) {
	m := read(`
		fn f -> { i8
			toy.use 0
			func.return
		}
		fn g -> { i1
			scf.if 0 {
				arith.const value=1 : i8
				func.call callee=@no
				scf.yield
			} {
				arith.const value=200 : i8
				scf.yield 1
			}
			func.return
		}
		fn f -> {
			func.call callee=@g
			func.return
		}
		fn h -> { i1
			func.call 0 callee=@g
			func.return
		}`)
	for i, c := range [][2]string{
		{said(verify.All(m, others())), "[{1 [0 0 0 0 1] 65} {1 [0 0 1 0 0] 62} {1 [0 0 1 0 1] 61} {2 [] 65} {2 [0 0] 65}] 0"},
		{said(verify.Check(m, others())), "65"},
		{said(verify.Where(m, others())), "1 [0 0 0 0 1] 65"},
		{said(verify.Function(m, others(), 0)), "0"},
		{said(verify.Function(m, others(), 1)), "65"},
		{said(verify.Function(m, others(), 2)), "65"},
		{said(verify.Function(m, others(), 3)), "0"},
		{said(verify.IsCore(m)), "false 0"},
		// Without the dialects.
		{said(verify.Check(m, nil)), "60"},
		{said(verify.Where(m, nil)), "0 [0 0] 60"},
		{said(verify.Function(m, nil, 0)), "60"},
		{said(verify.Function(m, nil, 3)), "0"},
		{said(verify.IsCore(api.Module{Ops: m.Ops[3:]})), "false 0"},
		{said(verify.IsCore(api.Module{Ops: m.Ops[:1]})), "false 0"},
		{said(verify.Where(api.Module{Ops: m.Ops[2:3]}, nil)), "0 [0 0] 65"},
		// The function itself has an empty path.
		{said(verify.Where(read("fn f -> {\nfunc.return\n}\nfn g -> {\n}"), nil)), "1 [] 64"},
		{said(verify.Where(read("fn f -> {\nfunc.return\n}"), nil)), "0 [] 0"},
		{said(verify.IsCore(read("fn f -> i8 { i8\nfunc.return 0\n}"))), "true 0"},
		{said(verify.IsCore(read("fn f -> { !toy.t\nfunc.return\n}"))), "false 0"},
		{said(verify.IsCore(read("fn f -> {\n}"))), "false 0"},
	} {
		if c[0] != c[1] {
			t.Errorf("case %d: %s, want %s", i, c[0], c[1])
		}
	}
}

// Data that stand in two places, and modules as large as they may be.
func TestLarge(t *testing.T) {
	t.Parallel()
	shared := read("fn f -> { i1\nscf.if 0 {\narith.const value=1 : i8\nscf.yield\n} {\nscf.yield\n}\nfunc.return\n}")
	ops := shared.Ops[0].Regions[0].Blocks[0].Ops
	ops[0].Regions[1] = ops[0].Regions[0]
	if got := said(verify.All(shared, nil)); got != "[] 0" {
		t.Errorf("a region that stands in two places: %s", got)
	}
	many := strings.Repeat("fn f -> {\nfunc.return\n}\n", api.MaxOps/2)
	all, e := verify.All(read(many), nil)
	if e != api.OK || len(all) != api.MaxOps/2-1 || all[0].F != 1 || all[0].Errno != api.ErrSymbol {
		t.Errorf("many functions of one name: %d faults, %d", len(all), e)
	}
	deep := "toy.end\n"
	for range api.MaxDepth - 1 {
		deep = "toy.around {\n" + deep + "}\ntoy.use 0\ntoy.end\n"
	}
	expect(t, "fn f -> { i8\n"+deep+"}", "")
	chain := "fn f -> " + strings.Repeat("i8 ", api.MaxList) + "{" + strings.Repeat(" i8", api.MaxList)
	uses := ""
	for v := range api.MaxList {
		uses += fmt.Sprint(" ", v)
	}
	for b := 1; b < api.MaxBlocks; b++ {
		chain += strings.Repeat("\ntoy.use"+uses, 8) + fmt.Sprint("\ncf.br ^", b, uses, "\n^", strings.Repeat(" i8", api.MaxList))
	}
	if e := verify.Check(read(chain+"\nfunc.return"+uses+"\n}"), others()); e != api.OK {
		t.Errorf("a long way through blocks: %d", e)
	}
	if got := said(verify.Where(read(chain+"\ntoy.use 20000\nzoo.ant : i8\nfunc.return"+uses+"\n}"), others())); got != "0 [199 0] 63" {
		t.Errorf("a long way through blocks: %s", got)
	}
	regions := "fn f -> {\n" + strings.Repeat("toy.blocks {\ntoy.go : i8 ^1\n^\ntoy.end 0\n} {\ntoy.end\n}\n", api.MaxOps/4-1) + "func.return\n}"
	all, e = verify.All(read(regions), others())
	if e != api.OK || len(all) != api.MaxOps/4-2 {
		t.Errorf("many regions of two blocks: %d faults, %d", len(all), e)
	}
}

// roomy is a copy with junk beyond the lengths of its lists.
func roomy(v reflect.Value) reflect.Value {
	c := reflect.New(v.Type()).Elem()
	switch v.Kind() {
	case reflect.Slice:
		if v.Len() == 0 {
			return v
		}
		c = reflect.MakeSlice(v.Type(), 0, v.Len()+1)
		for i := range v.Len() {
			c = reflect.Append(c, roomy(v.Index(i)))
		}
		junk := reflect.Append(c, reflect.Zero(v.Type().Elem()))
		spoil(junk.Index(c.Len()))
	case reflect.Struct:
		for i := range v.NumField() {
			c.Field(i).Set(roomy(v.Field(i)))
		}
	default:
		c.Set(v)
	}
	return c
}

// spoil changes all the memory of a value, also beyond the lengths of its lists.
func spoil(v reflect.Value) {
	switch v.Kind() {
	case reflect.Slice:
		for i := range v.Cap() {
			spoil(v.Slice(0, v.Cap()).Index(i))
		}
	case reflect.Struct:
		for i := range v.NumField() {
			spoil(v.Field(i))
		}
	case reflect.String:
		v.SetString("spoilt")
	case reflect.Int, reflect.Int64:
		v.SetInt(77)
	}
}

// whole is what a value looks like, with what lies beyond the lengths of its lists.
func whole(v reflect.Value) string {
	s := ""
	switch v.Kind() {
	case reflect.Slice:
		s = fmt.Sprint(v.Len())
		for i := range v.Cap() {
			s += " " + whole(v.Slice(0, v.Cap()).Index(i))
		}
	case reflect.Struct:
		for i := range v.NumField() {
			s += whole(v.Field(i)) + ";"
		}
	default:
		s = fmt.Sprint(v.Interface())
	}
	return s
}

// expectOwnPaths: no two paths share memory, also beyond their lengths.
func expectOwnPaths(t *testing.T, all []verify.Fault) {
	t.Helper()
	for i, x := range all {
		path := x.Path[:cap(x.Path)]
		for n := range path {
			path[n] = i
		}
	}
	for i, x := range all {
		if slices.ContainsFunc(x.Path, func(n int) bool { return n != i }) {
			t.Errorf("path %d of %d shares its memory", i, len(all))
		}
	}
}

// Arguments are neither changed nor kept, what lies beyond the lengths of their lists is not read, and results are new memory (R4).
func TestMemory(t *testing.T) {
	t.Parallel()
	faults := 0
	for seed := range uint64(150) {
		k := ranMaker(seed)
		m := k.module()
		for range 6 {
			k.change(&m)
		}
		plain := given{m, others(), 0}
		for name, call := range everyCall() {
			g := roomy(reflect.ValueOf(plain)).Interface().(given)
			before := whole(reflect.ValueOf(g))
			want := said(call(plain)...)
			got := call(g)
			if said(got...) != want {
				t.Errorf("%s of %s: %s, and without room %s", name, said(g), said(got...), want)
			}
			for _, x := range got {
				into := reflect.New(reflect.TypeOf(x)).Elem()
				into.Set(reflect.ValueOf(x))
				spoil(into)
			}
			if whole(reflect.ValueOf(g)) != before {
				t.Errorf("%s changed its arguments, or returned their memory: %s", name, said(g))
			}
			if again := said(call(g)...); again != want {
				t.Errorf("%s of %s: %s, and then %s", name, said(g), want, again)
			}
		}
		all, _ := verify.All(m, others())
		faults += len(all)
		expectOwnPaths(t, all)
	}
	if faults < 150 {
		t.Errorf("only %d faults", faults)
	}
}

// FuzzCalls holds every call against the second reading, and against P1 and R7: it ends, does not panic, and says the same twice.
func FuzzCalls(f *testing.F) {
	for seed := range 40 {
		f.Add([]byte(strings.Repeat(fmt.Sprint(seed, "abc", seed*seed, "\x00\xff"), 40)), seed%5, seed%4)
	}
	f.Fuzz(func(t *testing.T, data []byte, changes, number int) {
		next := func(n int) int {
			if len(data) == 0 {
				return 0
			}
			x := data[0]
			data = data[1:]
			return int(x) % n
		}
		k := &maker{next: next, budget: 15}
		m := k.module()
		expectReading(t, m, others())
		for range changes % 6 {
			k.change(&m)
		}
		expectReading(t, m, others())
		g := given{m, others()[number&1:], number}
		for name, call := range everyCall() {
			got := call(g)
			if said(got...) != said(call(g)...) {
				t.Errorf("%s of %s: two answers", name, said(g))
			}
		}
	})
}
