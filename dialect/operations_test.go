package dialect_test

import (
	"fmt"
	"math/rand/v2"
	"reflect"
	"slices"
	"strings"
	"testing"

	"demotic/api"
	"demotic/dialect"
)

func region(blocks ...api.Block) api.Region { return api.Region{Blocks: blocks} }

func block(ops ...api.Op) api.Block { return api.Block{Ops: ops} }

// around is an operation with one region of one block.
func around(name string, ops ...api.Op) api.Op {
	return api.Op{Name: name, Regions: []api.Region{region(block(ops...))}}
}

func named(name string) api.Op { return api.Op{Name: name} }

// fitting is an operation that fits a description.
func fitting(d dialect.Def) api.Op {
	o := api.Op{Name: "any.name", Regions: make([]api.Region, d.Regions), Succs: make([]api.Succ, d.Succs)}
	for i := range o.Regions {
		o.Regions[i].Blocks = make([]api.Block, 1)
	}
	for _, n := range d.Attrs {
		o.Attrs = append(o.Attrs, api.Attr{Name: n.Name, Kind: n.Kind})
	}
	return o
}

// P5.3: for each description an operation that fits, and changes of it.
func TestP5_3Fits(t *testing.T) {
	t.Parallel()
	all := definitionsOf(others())
	all["full"] = full()
	for name, d := range all {
		expect := func(o api.Op, ok bool, what ...any) {
			want := api.OK
			if !ok {
				want = api.ErrShape
			}
			if got := dialect.Fits(d, o); got != want {
				t.Errorf("Fits of %s, %s: %d, want %d", name, said(what...), got, want)
			}
		}
		changed := func(change func(o *api.Op)) api.Op {
			o := fitting(d)
			change(&o)
			return o
		}
		expect(fitting(d), true)
		for n := range 6 {
			expect(changed(func(o *api.Op) { o.Regions = make([]api.Region, n) }), n == d.Regions, n, "regions")
			expect(changed(func(o *api.Op) { o.Succs = make([]api.Succ, n) }), n == d.Succs, n, "successors")
		}
		for i := range d.Regions {
			for n := range 4 {
				expect(changed(func(o *api.Op) { o.Regions[i].Blocks = make([]api.Block, n) }), n < 2 || slices.Contains(d.Traits, "blocks"), "region", i, "with", n, "blocks")
			}
		}
		for i, need := range d.Attrs {
			expect(changed(func(o *api.Op) { o.Attrs = slices.Delete(o.Attrs, i, i+1) }), false, "without attribute", i)
			expect(changed(func(o *api.Op) { o.Attrs = append(o.Attrs, o.Attrs[i]) }), false, "attribute", i, "twice")
			expect(changed(func(o *api.Op) { o.Attrs[i].Name = "other" }), false, "attribute", i, "with another name")
			expect(changed(func(o *api.Op) { o.Attrs[i].Name = "x_" + need.Name }), false, "attribute", i, "with x_")
			expect(changed(func(o *api.Op) { o.Attrs = append(o.Attrs, api.Attr{Name: "x_" + need.Name, Kind: 5}) }), true, "attribute", i, "again with x_")
			for k := api.Kind(-1); k < 8; k++ {
				expect(changed(func(o *api.Op) { o.Attrs[i].Kind = k }), k == need.Kind, "attribute", i, "of the kind", k)
			}
		}
		for _, c := range []struct {
			names string
			ok    bool
		}{
			{"x_a", true}, {"x_", true}, {"x_a, x_b", true}, {"x_b, x_a", true}, {"x_a, x_a", false}, {"x_b, x_a, x_b", false}, {"x", false}, {"xa", false}, {"y_a", false}, {"x_a, other", false}, {"a_x_", false}, {"X_a", false}, {"_x_a", false},
		} {
			more := func(o *api.Op) {
				for i, s := range words(c.names) {
					o.Attrs = append(o.Attrs, api.Attr{Name: s, Kind: api.Kind(i)})
				}
			}
			expect(changed(more), c.ok, "with", c.names)
			expect(changed(func(o *api.Op) {
				more(o)
				slices.Reverse(o.Attrs)
			}), c.ok, "with", c.names, "before all others")
		}
		expect(changed(func(o *api.Op) { o.Attrs = append(o.Attrs, api.Attr{}) }), false, "without a name")
		// It looks at neither types, nor names, nor what is inside.
		expect(changed(func(o *api.Op) {
			o.Name, o.Operands, o.Results = "", []int{-1, 7, 7, 7}, []string{"no type"}
			for i := range o.Succs {
				o.Succs[i] = api.Succ{Block: -7, Args: []int{-1}}
			}
			for i := range o.Regions {
				o.Regions[i] = region(api.Block{Args: []string{"no type"}, Ops: []api.Op{{Attrs: make([]api.Attr, 2), Regions: make([]api.Region, 9)}}})
			}
		}), true, "with odd data")
	}
	long := api.Op{}
	for i := range 1 << 16 {
		long.Attrs = append(long.Attrs, api.Attr{Name: fmt.Sprint("x_", i)})
	}
	if e := dialect.Fits(dialect.Def{Name: "a"}, long); e != api.OK {
		t.Errorf("many attributes: %d", e)
	}
}

func TestP5_4Examples(t *testing.T) {
	print, div := named("io.print"), named("arith.divs")
	for i, c := range []struct {
		o    api.Op
		want string
	}{
		{named("arith.add"), "[pure] 0"},
		{div, "[traps] 0"},
		{print, "[prints] 0"},
		{named("func.call"), "[calls prints reads traps writes] 0"},
		{named("mem.copy"), "[reads writes] 0"},
		{named("t.keep"), "[prints] 0"},
		// What has neither effects nor the trait pure.
		{named("cf.br"), "[pure] 0"},
		{named("scf.yield"), "[pure] 0"},
		{named("scf.if"), "[pure] 0"},
		{named("t.many"), "[pure] 0"},
		{named("cf.trap"), "[traps] 0"},
		// Regions.
		{around("scf.if", named("arith.add"), named("scf.yield")), "[pure] 0"},
		{around("scf.if", named("arith.add"), print), "[prints] 0"},
		{around("scf.if", around("scf.if", print), div), "[prints traps] 0"},
		{named("scf.for"), "[pure] 0"},
		{named("scf.while"), "[pure] 0"},
		{around("scf.for"), "[traps] 0"},
		{around("scf.while"), "[traps] 0"},
		{around("scf.for", print), "[prints traps] 0"},
		{around("scf.if", around("scf.for")), "[traps] 0"},
		{named("t.work"), "[pure] 0"},
		{around("t.work"), "[traps] 0"},
		{around("arith.add"), "[traps] 0"},
		{api.Op{Name: "t.work", Regions: make([]api.Region, 1)}, "[traps] 0"},
		{api.Op{Name: "scf.if", Regions: make([]api.Region, 2)}, "[pure] 0"},
		{api.Op{Name: "scf.if", Regions: []api.Region{{}, region(api.Block{}, block(div, print))}}, "[prints traps] 0"},
		// Functions do nothing where they stand; what is inside of them is inside of all that they are inside of.
		{around("func.func", print, around("scf.for")), "[pure] 0"},
		{around("func.func", around("func.func", print)), "[pure] 0"},
		{around("scf.if", around("func.func", named("arith.add"))), "[pure] 0"},
		{around("scf.if", around("func.func", print)), "[prints] 0"},
		// What no dialect has.
		{named("no.such"), "[] 4"},
		{named(""), "[] 4"},
		{around("no.such", print), "[] 4"},
		{around("scf.if", named("no.such"), print), "[] 4"},
		{around("scf.if", print, named("no.such")), "[] 4"},
		{around("func.func", named("no.such")), "[] 4"},
		{around("scf.if", around("func.func", around("scf.for", named("arith.such")))), "[] 4"},
	} {
		if got := said(dialect.Effects(others(), c.o)); got != c.want {
			t.Errorf("case %d: %s, want %s", i, got, c.want)
		}
		want := said(c.want == "[pure] 0", c.want[len(c.want)-1:])
		if got := said(dialect.IsPure(others(), c.o)); got != want {
			t.Errorf("case %d: %s, want %s", i, got, want)
		}
	}
}

// expectEffects holds Effects and IsPure against the second reading.
func expectEffects(t *testing.T, o api.Op) {
	want, e := readEffects(others(), o)
	if got := said(dialect.Effects(others(), o)); got != said(want, e) {
		t.Errorf("Effects of %s: %s, want %s, %d", said(o), got, want, e)
	}
	if got := said(dialect.IsPure(others(), o)); got != said(slices.Equal(want, []string{"pure"}), e) {
		t.Errorf("IsPure of %s: %s, but the effects are %s, %d", said(o), got, want, e)
	}
}

// trees are operations with others inside of them.
func trees() []api.Op {
	var names []string
	for name := range definitionsOf(others()) {
		names = append(names, name)
	}
	slices.Sort(names)
	quiet := []string{"scf.if", "scf.if", "func.func", "arith.add", "scf.if", "scf.yield", "arith.const"}
	var l []api.Op
	for seed := range uint64(1500) {
		r := rand.New(rand.NewPCG(seed, 5))
		l = append(l, ranTree(r, names, 4), ranTree(r, append(quiet, names[seed%uint64(len(names))]), 5), ranTree(r, append(quiet, "no.such"), 3))
	}
	return l
}

// P5.4 for operations inside of others, and for all operations alone.
func TestP5_4Effects(t *testing.T) {
	t.Parallel()
	for _, o := range trees() {
		expectEffects(t, o)
	}
	for name := range definitionsOf(others()) {
		expectEffects(t, named(name))
		expectEffects(t, around(name))
		expectEffects(t, around(name, named("mem.load")))
		expectEffects(t, around("scf.if", named(name)))
	}
}

// P5.6: what is pure has no other effects, and an operation has the effects of all inside of it.
func TestP5_6(t *testing.T) {
	t.Parallel()
	pures := 0
	for _, o := range trees() {
		all, e := dialect.Effects(others(), o)
		if e != api.OK {
			continue
		}
		if slices.Contains(all, "pure") {
			pures++
			if len(all) > 1 {
				t.Errorf("%s: %s", said(o), all)
			}
		}
		if len(all) == 0 || !slices.IsSorted(all) {
			t.Errorf("%s: %s", said(o), all)
		}
		for _, x := range within(o) {
			some, e := dialect.Effects(others(), x)
			for _, s := range some {
				if e != api.OK || o.Name != "func.func" && s != "pure" && !slices.Contains(all, s) {
					t.Errorf("%s: %s, but inside of it %s, %d", said(o), all, some, e)
				}
			}
		}
	}
	if pures < 100 {
		t.Errorf("%d are pure", pures)
	}
}

// P1: calls end for data that contain themselves, and for large data.
func TestOddData(t *testing.T) {
	circle := around("scf.if", named("io.print"), named("arith.add"))
	circle.Regions[0].Blocks[0].Ops[1] = circle
	if got := said(dialect.Effects(nil, circle)); got != "[prints] 0" {
		t.Errorf("an operation inside of itself: %s", got)
	}
	if e := dialect.Fits(definition(nil, "scf.if"), circle); e != api.ErrShape {
		t.Errorf("an operation inside of itself: %d", e)
	}
	// As a tree this one would have 2^100 operations.
	twice := named("arith.divs")
	for range 100 {
		ops := []api.Op{twice}
		twice = api.Op{Name: "scf.if", Regions: []api.Region{region(block(ops...), block(ops...)), {}}}
	}
	if got := said(dialect.Effects(nil, twice)); got != "[traps] 0" {
		t.Errorf("an operation with others that are the same data: %s", got)
	}
	deep := named("io.print")
	for range 1 << 16 {
		deep = around("scf.if", deep)
	}
	if got := said(dialect.Effects(nil, deep)); got != "[prints] 0" {
		t.Errorf("a deep operation: %s", got)
	}
	wide := around("scf.if", make([]api.Op, 1<<16)...)
	if got := said(dialect.Effects(nil, wide)); got != "[] 4" {
		t.Errorf("a wide operation without names: %s", got)
	}
}

// given are the arguments of a call.
type given struct {
	L       []dialect.Dialect
	D       dialect.Def
	In, Out []string
	Op      api.Op
	Name    string
	Trait   string
}

// everyCall has all calls, with what they make of their arguments.
func everyCall() map[string]func(g given) []any {
	return map[string]func(g given) []any{
		"Core":    func(g given) []any { return results(dialect.Core(), api.OK) },
		"Check":   func(g given) []any { return results(dialect.Check(g.L)) },
		"Find":    func(g given) []any { return results(dialect.Find(g.L, g.Name)) },
		"Names":   func(g given) []any { return results(dialect.Names(g.L)) },
		"Match":   func(g given) []any { return results(dialect.Match(g.D, g.In, g.Out)) },
		"Infer":   func(g given) []any { return results(dialect.Infer(g.D, g.In)) },
		"Fits":    func(g given) []any { return results(dialect.Fits(g.D, g.Op)) },
		"Has":     func(g given) []any { return results(dialect.Has(g.D, g.Trait)) },
		"Effects": func(g given) []any { return results(dialect.Effects(g.L, g.Op)) },
		"IsPure":  func(g given) []any { return results(dialect.IsPure(g.L, g.Op)) },
	}
}

func results(l ...any) []any { return l }

// givens are arguments for which each call ends with OK.
func givens() []given {
	var l []given
	for name, d := range definitionsOf(others()) {
		in := map[int][]string{2: words("i8, i8"), 3: words("i1, i8, i8")}[len(d.In)]
		g := given{L: others(), D: d, In: in, Op: around("scf.if", fitting(d)), Name: name, Trait: "pure"}
		g.Op.Regions[0].Blocks[0].Ops[0].Name = "scf.if"
		l = append(l, g)
		g.Op = fitting(d)
		l = append(l, g)
	}
	return l
}

// roomy returns a copy with junk beyond the lengths of its lists.
func roomy(v reflect.Value) reflect.Value {
	c := reflect.New(v.Type()).Elem()
	switch v.Kind() {
	case reflect.Slice:
		if v.Len() == 0 {
			return v
		}
		c = reflect.MakeSlice(v.Type(), 0, v.Len()+1)
		for i := range v.Len() {
			c = reflect.Append(c, roomy(v.Index(i)))
		}
		junk := reflect.Append(c, reflect.Zero(v.Type().Elem()))
		spoil(junk.Index(c.Len()))
	case reflect.Struct:
		for i := range v.NumField() {
			c.Field(i).Set(roomy(v.Field(i)))
		}
	default:
		c.Set(v)
	}
	return c
}

// spoil changes all the memory of a value.
func spoil(v reflect.Value) {
	switch v.Kind() {
	case reflect.Slice:
		for i := range v.Cap() {
			spoil(v.Slice(0, v.Cap()).Index(i))
		}
	case reflect.Struct:
		for i := range v.NumField() {
			spoil(v.Field(i))
		}
	case reflect.String:
		v.SetString("spoilt")
	case reflect.Int, reflect.Int64:
		v.SetInt(77)
	}
}

// whole is what a value looks like, with what lies beyond the lengths of its lists.
func whole(v reflect.Value) string {
	s := ""
	switch v.Kind() {
	case reflect.Slice:
		s = fmt.Sprint(v.Len())
		for i := range v.Cap() {
			s += " " + whole(v.Slice(0, v.Cap()).Index(i))
		}
	case reflect.Struct:
		for i := range v.NumField() {
			s += whole(v.Field(i)) + ";"
		}
	default:
		s = fmt.Sprint(v.Interface())
	}
	return s
}

// span is the memory of a list, up to its capacity.
type span struct{ from, to uintptr }

func spans(v reflect.Value) []span {
	var l []span
	switch v.Kind() {
	case reflect.Slice:
		if v.Cap() > 0 {
			l = append(l, span{v.Pointer(), v.Pointer() + uintptr(v.Cap())*v.Type().Elem().Size()})
		}
		for i := range v.Len() {
			l = append(l, spans(v.Index(i))...)
		}
	case reflect.Struct:
		for i := range v.NumField() {
			l = append(l, spans(v.Field(i))...)
		}
	}
	return l
}

// Arguments are neither changed nor kept, what lies beyond the lengths of their lists is not read, and results are new memory (R4).
func TestMemory(t *testing.T) {
	t.Parallel()
	fine := map[string]int{}
	for _, plain := range givens() {
		for name, call := range everyCall() {
			g := roomy(reflect.ValueOf(plain)).Interface().(given)
			before := whole(reflect.ValueOf(g))
			want := said(call(plain)...)
			got := call(g)
			if said(got...) != want {
				t.Errorf("%s of %s: %s, and without room %s", name, said(g), said(got...), want)
			}
			if got[len(got)-1] == api.OK {
				fine[name]++
			}
			var l []span
			for _, x := range got {
				l = append(l, spans(reflect.ValueOf(x))...)
			}
			for i, x := range l {
				if slices.ContainsFunc(l[:i], func(y span) bool { return x.from < y.to && y.from < x.to }) {
					t.Errorf("two lists of what %s of %s returns share memory", name, said(g))
				}
			}
			if list := reflect.ValueOf(got[0]); list.Kind() == reflect.Slice || list.Kind() == reflect.Struct {
				into := reflect.New(list.Type()).Elem()
				into.Set(list)
				spoil(into)
			}
			if whole(reflect.ValueOf(g)) != before {
				t.Errorf("%s changed its arguments, or returned their memory: %s", name, said(g))
			}
			if again := said(call(g)...); again != want {
				t.Errorf("%s of %s: %s, and then %s", name, said(g), want, again)
			}
		}
	}
	for name := range everyCall() {
		if fine[name] < 8 {
			t.Errorf("%s ended with OK %d times", name, fine[name])
		}
	}
}

// FuzzCalls holds every call against the second reading, and against P1 and R7: it ends, does not panic, and says the same twice.
func FuzzCalls(f *testing.F) {
	for seed, s := range []string{"a:num,a;a;", "m:mem,index^m;elem m;mem<4xi8>,index;i8", "any*;num*;i8,i8;index", "t:arr,elem t,turn t;t;arr<4xi8>,i8,mem<4xi8>;arr<4xi8>", "i1,z:any,z;z;i1,!a.b,!a.b;!a.b", "index;;index;", "index^;elem ;;"} {
		f.Add(s, uint16(seed), seed, 4-seed, uint64(seed))
	}
	f.Fuzz(func(t *testing.T, lists string, set uint16, regions, succs int, seed uint64) {
		l := append(strings.Split(lists, ";"), "", "", "", "")
		d := dialect.Def{Name: "d", In: split(l[0]), Out: split(l[1]), Regions: regions, Succs: succs}
		for i, x := range traits {
			if set>>i&1 == 1 {
				d.Traits = append(d.Traits, x)
			}
		}
		slices.Sort(d.Traits)
		in, out := split(l[2]), split(l[3])
		r := rand.New(rand.NewPCG(seed, 6))
		g := given{L: []dialect.Dialect{{Name: "t", Ops: []dialect.Def{d}}}, D: d, In: in, Out: out, Op: ranTree(r, []string{"t.d", "scf.if", "arith.add", "func.func"}, 3), Name: "t.d", Trait: l[4]}
		for name, call := range everyCall() {
			got := call(g)
			if said(got...) != said(call(g)...) {
				t.Errorf("%s of %s: two answers", name, said(g))
			}
			if e := got[len(got)-1]; e != api.OK && name != "Check" && len(got) > 1 && !reflect.ValueOf(got[0]).IsZero() {
				t.Errorf("%s of %s: %s", name, said(g), said(got...))
			}
		}
		if !knowsTypes(d, in, out) {
			return
		}
		if e := dialect.Check(g.L); (e == api.OK) != isRight(d) || e != api.OK && e != api.ErrDialect {
			t.Errorf("Check of %s: %d", said(d), e)
		}
		if isRight(d) {
			expectTypes(t, d, in, out)
			want, e := readEffects(g.L, g.Op)
			if got := said(dialect.Effects(g.L, g.Op)); got != said(want, e) {
				t.Errorf("Effects of %s: %s, want %s", said(g), got, said(want, e))
			}
		}
	})
}

func split(s string) []string {
	if s == "" {
		return nil
	}
	return strings.Split(s, ",")
}

// knowsTypes tells whether the second reading knows all types among these, and none of what it does not know is a type.
func knowsTypes(d dialect.Def, in, out []string) bool {
	for _, s := range slices.Concat(d.In, d.Out) {
		if dialect.Match(dialect.Def{Name: "a"}, []string{s}, nil) != api.ErrType && !isType(s) {
			return false
		}
	}
	for _, s := range slices.Concat(in, out) {
		if !isType(s) {
			return false
		}
	}
	return true
}
