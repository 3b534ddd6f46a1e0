package dialect_test

import (
	"fmt"
	"slices"
	"strings"
	"testing"

	"demotic/api"
	"demotic/dialect"
)

// P5.1: Core has just what the table has, rising.
func TestP5_1Core(t *testing.T) {
	want := coreByTable()
	if len(want) != 39 {
		t.Fatalf("%d operations", len(want))
	}
	count := 0
	var names []string
	for _, x := range dialect.Core() {
		names = append(names, x.Name)
		if len(x.Types) > 0 || !slices.IsSortedFunc(x.Ops, func(a, b dialect.Def) int { return strings.Compare(a.Name, b.Name) }) {
			t.Errorf("%s: %v", x.Name, x)
		}
		for _, d := range x.Ops {
			count++
			if said(d) != said(want[x.Name+"."+d.Name]) {
				t.Errorf("%s: %s, want %s", x.Name, said(d), said(want[x.Name+"."+d.Name]))
			}
		}
	}
	if count != len(want) || said(names) != said(coreNames) {
		t.Errorf("%d operations of %s", count, names)
	}
}

// P5.5: the core dialects are right, but for their names.
func TestP5_5Core(t *testing.T) {
	core := dialect.Core()
	if e := dialect.Check(core); e != api.ErrDialect {
		t.Errorf("Check of Core: %d", e)
	}
	for i, x := range core {
		if e := dialect.Check([]dialect.Dialect{x}); e != api.ErrDialect {
			t.Errorf("Check of %s: %d", x.Name, e)
		}
		if e := dialect.Check([]dialect.Dialect{{Name: x.Name}}); e != api.ErrDialect {
			t.Errorf("Check of %s without operations: %d", x.Name, e)
		}
		core[i].Name = "my_" + x.Name
	}
	if e := dialect.Check(core); e != api.OK {
		t.Errorf("Check of Core with other names: %d", e)
	}
}

// The longest name that there may be, and one that is longer.
var (
	longest = strings.Repeat("a", api.MaxName)
	tooLong = longest + "a"
)

// noNames are strings that are not names.
var noNames = []string{"", " ", "A", "1", "9a", "_", "_a", "a-b", "a.b", "aB", "a ", " a", "é", "a\x00", "\xff", "a\xff", tooLong, strings.Repeat("a", 1<<16)}

// numbered are so many rising names.
func numbered(n int) []string {
	var l []string
	for i := range n {
		l = append(l, fmt.Sprintf("n%05d", i))
	}
	return l
}

// full is a right description that has something everywhere.
func full() dialect.Def {
	return dialect.Def{
		Name: "d", In: []string{"a:num", "a", "m:mem", "index^m"}, Out: []string{"elem m", "any*"},
		Attrs: []dialect.Need{{Name: "k", Kind: api.Int}, {Name: "x_l", Kind: api.Ints}}, Regions: 2, Succs: 3,
		Traits: []string{"blocks", "calls", "commutes", "end", "writes"},
	}
}

// changesOfDef are changes of the full description; those of the first list leave it right, those of the second one do not.
func changesOfDef() (right, wrong []func(d *dialect.Def)) {
	both := [2][]func(*dialect.Def){}
	add := func(ok bool, change func(d *dialect.Def)) {
		i := 0
		if !ok {
			i = 1
		}
		both[i] = append(both[i], change)
	}
	for _, s := range noNames {
		add(false, func(d *dialect.Def) { d.Name = s })
		add(false, func(d *dialect.Def) { d.Attrs = []dialect.Need{{Name: s}} })
		add(false, func(d *dialect.Def) { d.Traits = []string{s} })
	}
	for _, s := range []string{"a", "z9_", longest} {
		add(true, func(d *dialect.Def) { d.Name = s })
		add(true, func(d *dialect.Def) { d.Attrs = []dialect.Need{{Name: s}} })
	}
	for n := range 14 {
		add(n <= 10, func(d *dialect.Def) {
			d.Attrs = nil
			for _, s := range numbered(n) {
				d.Attrs = append(d.Attrs, dialect.Need{Name: s})
			}
		})
	}
	for _, k := range []api.Kind{-1 << 62, -1, 0, 1, 2, 3, 4, 5, 6, 7, 1 << 62} {
		add(0 <= k && k <= 5, func(d *dialect.Def) { d.Attrs[1].Kind = k })
	}
	add(false, func(d *dialect.Def) { d.Attrs = []dialect.Need{{Name: "a"}, {Name: "a"}} })
	add(false, func(d *dialect.Def) { d.Attrs = []dialect.Need{{Name: "a"}, {Name: "a", Kind: 1}} })
	add(false, func(d *dialect.Def) { d.Attrs = []dialect.Need{{Name: "b"}, {Name: "a"}} })
	add(true, func(d *dialect.Def) { d.Attrs = []dialect.Need{{Name: "a"}, {Name: "a0"}, {Name: "a_"}, {Name: "aa"}} })
	for _, n := range []int{-1 << 62, -1, 0, 1, 2, 3, 4, 5, 100, 1 << 62} {
		add(0 <= n && n <= 3, func(d *dialect.Def) { d.Regions = n })
		add(0 <= n && n <= 4, func(d *dialect.Def) { d.Succs = n })
		add(n == 0, func(d *dialect.Def) { d.Succs, d.Traits = n, []string{"blocks"} })
	}
	for _, in := range [][]string{{"a:num"}, {"a", "a:num"}, {"a:num", "b:num"}, {"a:num", "b:num", "a"}, {"a:mem", "elem a"}, {"a:mem", "turn a"}, {"i8", "i8"}, {"any*"}, nil} {
		add(false, func(d *dialect.Def) { d.In, d.Out = in, nil })
	}
	for _, in := range [][]string{{"a:num", "a"}, {"b:mem", "b", "b"}, {"z:any", "z", "any*"}, {"a:int", "a", "b:int"}} {
		add(true, func(d *dialect.Def) { d.In, d.Out = in, nil })
	}
	return both[0], both[1]
}

// P5.1: which descriptions are right.
func TestP5_1Right(t *testing.T) {
	t.Parallel()
	expect := func(d dialect.Def, want bool) {
		if isRight(d) != want {
			t.Errorf("the second reading of %s is not %v", said(d), want)
		}
		e := api.OK
		if !want {
			e = api.ErrDialect
		}
		_, got := dialect.Has(d, "pure")
		if got != e || dialect.Check([]dialect.Dialect{{Name: "t", Ops: []dialect.Def{d}}}) != e {
			t.Errorf("%.500s: %d, want %d", said(d), got, e)
		}
	}
	right, wrong := changesOfDef()
	expect(full(), true)
	expect(dialect.Def{}, false)
	expect(dialect.Def{Name: "a"}, true)
	for _, change := range right {
		d := full()
		change(&d)
		expect(d, true)
	}
	for _, change := range wrong {
		d := full()
		change(&d)
		expect(d, false)
	}
	for set := range 1 << len(traits) {
		var l []string
		for i, x := range traits {
			if set>>i&1 == 1 {
				l = append(l, x)
			}
		}
		slices.Sort(l)
		d := dialect.Def{Name: "a", In: []string{"a:num", "a"}, Traits: l}
		expect(d, isRight(d))
		if len(l) > 1 {
			l[0], l[1] = l[1], l[0]
			expect(d, false)
			l[0] = l[1]
			expect(d, false)
		}
	}
	for _, s := range []string{"Pure", "pur", "puree", "trap", "terminates", "x_a"} {
		expect(dialect.Def{Name: "a", Traits: []string{s}}, false)
	}
}

// P5.1: which dialects, and which lists of them, are right.
func TestP5_1Check(t *testing.T) {
	t.Parallel()
	expect := func(l []dialect.Dialect, want api.Errno) {
		if got := dialect.Check(l); got != want {
			t.Errorf("Check(%.500s): %d, want %d", said(l), got, want)
		}
	}
	defs := func(names []string) []dialect.Def {
		var l []dialect.Def
		for _, s := range names {
			l = append(l, dialect.Def{Name: s})
		}
		return l
	}
	dialects := func(names []string) []dialect.Dialect {
		var l []dialect.Dialect
		for _, s := range names {
			l = append(l, dialect.Dialect{Name: s})
		}
		return l
	}
	one := func(d dialect.Dialect) []dialect.Dialect { return []dialect.Dialect{d} }
	errno := func(ok bool) api.Errno {
		if ok {
			return api.OK
		}
		return api.ErrDialect
	}
	expect(nil, api.OK)
	expect(others(), api.OK)
	for _, s := range noNames {
		expect(dialects([]string{s}), api.ErrDialect)
		expect(one(dialect.Dialect{Name: "t", Types: []string{s}}), api.ErrDialect)
		expect(one(dialect.Dialect{Name: "t", Types: []string{"a", s}}), api.ErrDialect)
		expect(one(dialect.Dialect{Name: "t", Ops: defs([]string{s})}), api.ErrDialect)
	}
	for _, s := range coreNames {
		expect(dialects([]string{s}), api.ErrDialect)
		expect(dialects([]string{"a", s}), api.ErrDialect)
		expect(dialects([]string{s + "_"}), api.OK)
		expect(dialects([]string{s[:len(s)-1]}), api.OK)
		expect(one(dialect.Dialect{Name: "t", Types: []string{s}, Ops: defs([]string{s})}), api.OK)
	}
	for _, n := range []int{0, 1, 9, 10, 11, 19, 20, 21, 59, 60, 61, 1000} {
		expect(dialects(numbered(n)), errno(n <= 10))
		expect(one(dialect.Dialect{Name: "t", Types: numbered(n)}), errno(n <= 20))
		expect(one(dialect.Dialect{Name: "t", Ops: defs(numbered(n))}), errno(n <= 60))
	}
	for _, c := range []struct {
		names []string
		want  api.Errno
	}{
		{[]string{"a", "a"}, api.ErrDialect}, {[]string{"b", "a"}, api.ErrDialect}, {[]string{"a", "c", "b"}, api.ErrDialect}, {[]string{"a", "b", "b"}, api.ErrDialect},
		{[]string{"a", "a0", "a_", "aa", "b"}, api.OK}, {[]string{"aa", "a_"}, api.ErrDialect}, {[]string{"a_", "a0"}, api.ErrDialect}, {[]string{longest}, api.OK},
	} {
		expect(dialects(c.names), c.want)
		expect(one(dialect.Dialect{Name: "t", Types: c.names}), c.want)
		expect(one(dialect.Dialect{Name: "t", Ops: defs(c.names)}), c.want)
	}
	_, wrong := changesOfDef()
	for _, change := range wrong {
		d := full()
		change(&d)
		expect(append(others(), dialect.Dialect{Name: "zzz", Ops: []dialect.Def{{Name: "a"}, d}}), api.ErrDialect)
	}
}

// P5.1: all operations are found by their names, and by no others.
func TestP5_1Find(t *testing.T) {
	for _, l := range [][]dialect.Dialect{nil, others()} {
		all := definitionsOf(l)
		for name, want := range all {
			if got, e := dialect.Find(l, name); e != api.OK || said(got) != said(want) {
				t.Errorf("Find(%s): %s, %d, want %s", name, said(got), e, said(want))
			}
			for _, other := range []string{name + "x", name + ".", "." + name, name + "." + name, name[1:], name[:len(name)-1], strings.ToUpper(name), strings.Replace(name, ".", "..", 1), strings.Replace(name, ".", "", 1), strings.Replace(name, ".", " ", 1), " " + name} {
				if _, ok := all[other]; ok {
					continue
				}
				if got, e := dialect.Find(l, other); e != api.ErrNone || said(got) != said(dialect.Def{}) {
					t.Errorf("Find(%q): %s, %d", other, said(got), e)
				}
			}
		}
		for _, name := range []string{"", ".", "arith", "arith.", ".add", "add", "alone", "alone.", "alone.add", "t.add", "scf.br", "arith.cond", "no.such", strings.Repeat("a", 1<<16)} {
			if got, e := dialect.Find(l, name); e != api.ErrNone || said(got) != said(dialect.Def{}) {
				t.Errorf("Find(%.50q): %s, %d", name, said(got), e)
			}
		}
		var names []string
		for name := range all {
			names = append(names, name)
		}
		slices.Sort(names)
		if got, e := dialect.Names(l); e != api.OK || said(got) != said(names) {
			t.Errorf("Names: %s, %d", got, e)
		}
	}
	if _, e := dialect.Find(nil, "t.keep"); e != api.ErrNone {
		t.Errorf("Find without the dialect: %d", e)
	}
	// Names whose dialects are prefixes of others stand in the order of their bytes.
	l := []dialect.Dialect{{Name: "aa", Ops: []dialect.Def{{Name: "z"}}}, {Name: "aa0", Ops: []dialect.Def{{Name: "a"}}}, {Name: "aa_", Ops: []dialect.Def{{Name: "b"}}}, {Name: "aaa", Ops: []dialect.Def{{Name: "c"}}}}
	if got, e := dialect.Names(l); e != api.OK || said(got[:4]) != "[aa.z aa0.a aa_.b aaa.c]" {
		t.Errorf("Names: %s, %d", got, e)
	}
}

// P5.1: Has tells of each trait whether it is there.
func TestP5_1Has(t *testing.T) {
	for name, d := range definitionsOf(others()) {
		for _, x := range traits {
			if got, e := dialect.Has(d, x); e != api.OK || got != slices.Contains(d.Traits, x) {
				t.Errorf("Has(%s, %s): %v, %d", name, x, got, e)
			}
		}
		for _, x := range []string{"", "Pure", "pure ", "trap", "i8", "commutes, pure", strings.Repeat("pure", 1<<14)} {
			if got, e := dialect.Has(d, x); e != api.ErrArg || got {
				t.Errorf("Has(%s, %.50q): %v, %d", name, x, got, e)
			}
		}
	}
}

// A list that is not right, or a description, is ErrDialect before all other errors.
func TestDialectErrors(t *testing.T) {
	bad := []dialect.Def{{}, {Name: "a", In: []string{"a"}}, {Name: "a", Succs: 1}}
	for _, d := range bad {
		lists := [][]dialect.Dialect{{{Name: "t", Ops: []dialect.Def{d}}}, append(others(), dialect.Dialect{Name: "zzz", Ops: []dialect.Def{d}}), dialect.Core(), {{}}, {{Name: "t"}, {Name: "t"}}}
		for i, l := range lists {
			for _, c := range [][2]string{
				{said(dialect.Check(l)), "50"},
				{said(dialect.Find(l, "arith.add")), said(dialect.Def{}, 50)},
				{said(dialect.Find(l, "no.such")), said(dialect.Def{}, 50)},
				{said(dialect.Names(l)), "[] 50"},
				{said(dialect.Effects(l, api.Op{Name: "arith.add"})), "[] 50"},
				{said(dialect.Effects(l, api.Op{Name: "no.such"})), "[] 50"},
				{said(dialect.IsPure(l, api.Op{Name: "arith.add"})), "false 50"},
				{said(dialect.IsPure(l, api.Op{})), "false 50"},
			} {
				if c[0] != c[1] {
					t.Errorf("list %d: %s, want %s", i, c[0], c[1])
				}
			}
		}
		for _, c := range [][2]string{
			{said(dialect.Match(d, nil, nil)), "50"},
			{said(dialect.Match(d, words("no type"), words("no type"))), "50"},
			{said(dialect.Infer(d, nil)), "[] 50"},
			{said(dialect.Infer(d, words("no type"))), "[] 50"},
			{said(dialect.Fits(d, api.Op{Name: "t.a"})), "50"},
			{said(dialect.Fits(d, api.Op{Regions: make([]api.Region, 7)})), "50"},
			{said(dialect.Has(d, "pure")), "false 50"},
			{said(dialect.Has(d, "no trait")), "false 50"},
		} {
			if c[0] != c[1] {
				t.Errorf("%s: %s, want %s", said(d), c[0], c[1])
			}
		}
	}
}
