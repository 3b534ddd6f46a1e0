package dialect_test

import (
	"slices"
	"strings"
	"testing"

	"demotic/api"
	"demotic/dialect"
)

func TestExamples(t *testing.T) {
	find := func(name string) dialect.Def {
		d, e := dialect.Find(nil, name)
		if e != api.OK {
			t.Errorf("Find(%s): %d", name, e)
		}
		return d
	}
	add, load := find("arith.add"), find("mem.load")
	for i, c := range [][2]string{
		{said(dialect.Match(add, words("i32, i32"), words("i32"))), "0"},
		{said(dialect.Match(add, words("i32, i64"), words("i32"))), "62"},
		{said(dialect.Match(add, words("i32"), words("i32"))), "61"},
		{said(dialect.Match(add, words("i32, i32"), words("i64"))), "62"},
		{said(dialect.Match(add, words("i32, i32"), nil)), "61"},
		{said(dialect.Match(add, words("i32, i32"), words("i32, i32"))), "61"},
		{said(dialect.Match(add, words("index, index"), words("index"))), "0"},
		{said(dialect.Match(add, words("mem<i8>, mem<i8>"), words("mem<i8>"))), "62"},
		{said(dialect.Infer(add, words("i32, i32"))), "[i32] 0"},
		{said(dialect.Infer(load, words("mem<4x3xi8>, index, index"))), "[i8] 0"},
		{said(dialect.Infer(load, words("mem<4x3xi8>, index"))), "[] 61"},
		{said(dialect.Infer(load, words("mem<4x3xi8>, index, index, index"))), "[] 61"},
		{said(dialect.Infer(load, words("mem<4x3xi8>, index, i64"))), "[] 62"},
		{said(dialect.Infer(load, words("mem<i8>"))), "[i8] 0"},
		{said(dialect.Infer(load, nil)), "[] 61"},
		// What stands for m is an array, or has no extents.
		{said(dialect.Infer(load, words("arr<4x3xi8>, index, index"))), "[] 62"},
		{said(dialect.Infer(load, words("arr<4x3xi8>"))), "[] 61"},
		{said(dialect.Infer(load, words("i8"))), "[] 62"},
		{said(dialect.Infer(load, words("!a.b"))), "[] 62"},
		{said(dialect.Infer(load, words("i8, index"))), "[] 61"},
		{said(dialect.Infer(find("arith.cmp"), words("i8, i8"))), "[i1] 0"},
		{said(dialect.Infer(find("arith.select"), words("i1, mem<i8>, mem<i8>"))), "[mem<i8>] 0"},
		{said(dialect.Infer(find("arith.select"), words("i8, i8, i8"))), "[] 62"},
		{said(dialect.Infer(find("arith.select"), words("i1, i8, i16"))), "[] 62"},
		{said(dialect.Infer(find("arith.const"), nil)), "[] 1"},
		{said(dialect.Infer(find("arith.const"), words("i8"))), "[] 61"},
		{said(dialect.Infer(find("arith.exts"), words("i8"))), "[] 1"},
		{said(dialect.Infer(find("arith.exts"), words("index"))), "[] 62"},
		{said(dialect.Infer(find("mem.store"), words("mem<4xi8>, i8, index"))), "[] 0"},
		{said(dialect.Infer(find("arr.set"), words("arr<2xi8>, i8, index"))), "[arr<2xi8>] 0"},
		{said(dialect.Infer(find("cf.br"), nil)), "[] 0"},
		{said(dialect.Match(find("scf.for"), words("index, index"), nil)), "0"},
		{said(dialect.Match(find("scf.for"), words("index"), nil)), "61"},
		{said(dialect.Match(find("scf.for"), words("index, i64"), nil)), "62"},
		{said(dialect.Match(find("scf.for"), words("index, index, !a.b, i1"), words("mem<i8>"))), "0"},
		{said(dialect.Match(find("arith.const"), nil, words("i8, index"))), "0"},
		{said(dialect.Match(find("arith.const"), nil, words("i8, mem<i8>"))), "62"},
		{said(dialect.Match(find("mem.copy"), words("mem<4xi8>, mem<4xi8>"), nil)), "0"},
		{said(dialect.Match(find("mem.copy"), words("mem<4xi8>, mem<5xi8>"), nil)), "62"},
		{said(dialect.Match(find("io.print"), words("!a.b"), nil)), "62"},
	} {
		if c[0] != c[1] {
			t.Errorf("case %d: %s, want %s", i, c[0], c[1])
		}
	}
}

// somes are all lists of up to so many of some strings.
func somes(l []string, most int) [][]string {
	all := [][]string{nil}
	for from := 0; most > 0; most-- {
		to := len(all)
		for _, x := range all[from:to] {
			for _, s := range l {
				all = append(all, append(slices.Clone(x), s))
			}
		}
		from = to
	}
	return all
}

// someRules are rules of all sorts.
var someRules = []string{"a:int", "a:num", "a:mem", "a:arr", "a:any", "a", "elem a", "turn a", "index^a", "any*", "num*", "i8", "b:mem", "b"}

// P5.2: which lists of rules are right.
func TestP5_2Rules(t *testing.T) {
	t.Parallel()
	expect := func(in, out []string) {
		d := dialect.Def{Name: "a", In: in, Out: out}
		_, e := dialect.Has(d, "pure")
		if want := listsAreRight(in, out); want != (e == api.OK) || !want && e != api.ErrDialect {
			t.Errorf("%q, %q: %d", in, out, e)
		}
	}
	for _, in := range somes(someRules, 3) {
		expect(in, nil)
		expect(nil, in)
	}
	for _, in := range somes(someRules, 2) {
		for _, out := range somes(someRules, 2) {
			expect(in, out)
		}
	}
	for _, n := range []int{9, 10, 11, 1000} {
		l := slices.Repeat([]string{"i8"}, n)
		expect(l, nil)
		expect(nil, l)
		expect(l, l)
		expect(append(slices.Clone(l[1:]), "any*"), append(slices.Clone(l[1:]), "num*"))
	}
}

// P5.2: strings that are no rules, though they look like them.
func TestP5_2NoRules(t *testing.T) {
	t.Parallel()
	bindings := []string{"a:mem", "z:arr"}
	for _, r := range []string{
		"", " ", "A", "é", "1", "_", "?", "*", "aa", "a ", " a", "a:", ":a", ":int", "a:i8", "a:index", "a:a", "b:Int", "b:int ", "b :int", "b: int", "bb:int", "B:int", "1:int", "b:mems", "b:foreign",
		"elem", "elem ", "elem  a", "elema", "elem a ", " elem a", "Elem a", "elem A", "elem aa", "elem i8", "elem mem<i8>", "elem elem a", "elem turn a", "turn", "turn a a", "a turn", "turn_a", "turn\ta", "elem a\n",
		"index^", "index^aa", "index^A", "index ^a", "index^ a", "index^a ", "^a", "i64^a", "a^index", "index^i8", "index^2",
		"any", "num", "any*a", "aany*", "any**", "any *", "*any", "int*", "mem*", "any^a", "a*", "any*:int", "any* a", "a:any*", "num* ",
		"i0", "i65", "index ", "mem<>", "mem<i8", "mem<a>", "!a", "!a.", "a.b", "\xff", "a\xff", "elem \xff", "a\x00", "b:int\x00", "elem a, a", strings.Repeat("a", 1<<16), "elem " + strings.Repeat(" ", 1<<16) + "a",
	} {
		for _, d := range []dialect.Def{
			{Name: "a", In: []string{r}},
			{Name: "a", In: append(slices.Clone(bindings), r)},
			{Name: "a", In: append([]string{r}, bindings...)},
			{Name: "a", In: bindings, Out: []string{r}},
		} {
			if e := dialect.Match(d, nil, nil); e != api.ErrDialect {
				t.Errorf("the rule %.50q: %d", r, e)
			}
		}
	}
	// All small letters are variables.
	for v := 'a'; v <= 'z'; v++ {
		s := string(v)
		d := dialect.Def{Name: "a", In: []string{s + ":mem", s, "elem " + s, "turn " + s, "index^" + s}, Out: []string{s}}
		if e := dialect.Match(d, words("mem<4xi8>, mem<4xi8>, i8, arr<4xi8>, index"), words("mem<4xi8>")); e != api.OK {
			t.Errorf("the variable %s: %d", s, e)
		}
	}
}

// expectTypes holds Match and Infer against the second reading.
func expectTypes(t *testing.T, d dialect.Def, in, out []string) {
	if got, want := dialect.Match(d, in, out), readMatch(d, in, out); got != want {
		t.Errorf("Match(%s, %s, %s): %d, want %d", said(d), in, out, got, want)
	}
	types, e := readInfer(d, in)
	if got, want := said(dialect.Infer(d, in)), said(types, e); got != want {
		t.Errorf("Infer(%s, %s): %s, want %s", said(d), in, got, want)
	}
}

// pool are the types that are given to operations.
func pool() []string {
	var l []string
	for _, x := range typed[:11] {
		l = append(l, x.text)
	}
	return l
}

// P5.2: all rules, alone and two together.
func TestP5_2Match(t *testing.T) {
	t.Parallel()
	types := somes(pool(), 3)
	for _, in := range somes(someRules, 2) {
		d := dialect.Def{Name: "a", In: in}
		if listsAreRight(in, nil) {
			for _, l := range types {
				expectTypes(t, d, l, nil)
			}
		}
	}
	outs := somes(pool(), 2)
	for _, in := range somes(someRules, 1) {
		for _, out := range somes(someRules, 2) {
			d := dialect.Def{Name: "a", In: in, Out: out}
			if listsAreRight(in, out) {
				for _, l := range somes(pool(), 1) {
					for _, m := range outs {
						expectTypes(t, d, l, m)
					}
				}
			}
		}
	}
}

// P5.2: the operations of dialects, with types that fit them or nearly do.
func TestP5_2Operations(t *testing.T) {
	t.Parallel()
	lists := somes(pool(), 2)
	for _, s := range []string{
		"i1, i8, i8", "i1, arr<4xi8>, arr<4xi8>", "i1, !a.b, !a.b", "i1, i8, i64", "i8, i8, i8", "index, index, i8", "index, i64, i8", "index, index, i8, !a.b",
		"mem<4xi8>, index, index", "mem<4x3xindex>, index, index", "mem<4x3xindex>, index, index, index", "mem<4x3xindex>, index, i64", "mem<4x3xindex>, index, index, index, index",
		"arr<0x0x0xi8>, index, index, index", "arr<0x0x0xi8>, i8, index, index, index", "arr<0x0x0xi8>, index, index, index, index", "mem<i8>, i8", "mem<4xi8>, i8, index", "mem<4xi8>, i64, index", "arr<4xi8>, i8, index",
		"mem<4xi8>, index, arr<4xi8>, mem<4xi8>, index", "mem<4xi8>, index, arr<4xi8>, mem<4xi8>, index, i8, index", "mem<4xi8>, index, arr<4xi8>, mem<4xi8>, index, i8, !a.b", "mem<4xi8>, index, arr<4xi8>, arr<4xi8>, index",
		"mem<i8>, arr<index>, mem<index>", "mem<i8>, arr<index>, mem<index>, i1, i8", "mem<4x3xindex>, index, index, arr<0x0x0xi8>, mem<0x0x0xi8>, index, index, index", "arr<4xi8>, index, arr<4xi8>, mem<4xi8>, index",
		"i8, arr<4xi8>, mem<4xi8>, index", "arr<4xi8>, index, mem<4xi8>, mem<4xi8>, index", "mem<4xi8>, index, i8, mem<4xi8>", "mem<4xi8>, index, i8, mem<4xi8>, index",
	} {
		lists = append(lists, words(s))
	}
	outs := append(somes(pool(), 1), words("i8, i8"), words("i8, i8, i8"), words("i64, i8, index"), words("i64, i8, !a.b"), words("arr<4xi8>, i8, mem<4xi8>"), words("arr<i8>, index, mem<i8>"), words("mem<4xi8>, i8, mem<4xi8>"))
	for _, d := range definitionsOf(others()) {
		for _, in := range lists {
			for _, out := range outs {
				expectTypes(t, d, in, out)
			}
		}
	}
	d := definition(others(), "func.call")
	long := slices.Repeat([]string{"i8"}, 1<<16)
	if e := dialect.Match(d, long, long); e != api.OK {
		t.Errorf("many types: %d", e)
	}
}

// Before the types are held against the rules, ErrDialect and then ErrType.
func TestTypesErrors(t *testing.T) {
	bad := dialect.Def{Name: "a", In: []string{"a"}}
	add := definition(nil, "arith.add")
	for _, no := range []string{"", "a", "i0", "a:num", "any*", "index ", "!a", strings.Repeat("i", 1<<16)} {
		for _, l := range [][]string{{no}, {"i8", no}, {no, "i8"}, {"i8", "i8", no}, {"mem<i8>", no, "i8", "i8"}} {
			for i, c := range [][2]string{
				{said(dialect.Match(add, l, nil)), "10"},
				{said(dialect.Match(add, nil, l)), "10"},
				{said(dialect.Match(add, l, l)), "10"},
				{said(dialect.Match(add, words("i8, i8"), l)), "10"},
				{said(dialect.Match(bad, l, nil)), "50"},
				{said(dialect.Match(bad, nil, l)), "50"},
				{said(dialect.Infer(add, l)), "[] 10"},
				{said(dialect.Infer(bad, l)), "[] 50"},
				{said(dialect.Infer(definition(nil, "arith.const"), l)), "[] 10"},
			} {
				if c[0] != c[1] {
					t.Errorf("types %.50q, case %d: %s, want %s", l, i, c[0], c[1])
				}
			}
		}
	}
	// ErrShape of the results comes before ErrTypes of the operands; ErrArg comes last.
	for i, c := range [][2]string{
		{said(dialect.Match(add, words("i8, i64"), nil)), "61"},
		{said(dialect.Match(add, words("i8, i64"), words("i8"))), "62"},
		{said(dialect.Infer(definition(nil, "arith.exts"), words("i8, i8"))), "[] 61"},
		{said(dialect.Infer(definition(nil, "arith.exts"), words("!a.b"))), "[] 62"},
		{said(dialect.Infer(definition(nil, "arith.exts"), words("i8"))), "[] 1"},
		{said(dialect.Infer(definition(others(), "t.keep"), words("i8, i8"))), "[] 1"},
	} {
		if c[0] != c[1] {
			t.Errorf("case %d: %s, want %s", i, c[0], c[1])
		}
	}
}

// P5.5: Infer gives types that Match, and those alone.
func TestP5_5Infer(t *testing.T) {
	t.Parallel()
	count := 0
	for _, in := range somes(someRules, 2) {
		for _, out := range somes(someRules, 2) {
			d := dialect.Def{Name: "a", In: in, Out: out}
			if _, e := dialect.Has(d, "pure"); e != api.OK {
				continue
			}
			for _, l := range somes(pool(), 2) {
				got, e := dialect.Infer(d, l)
				if e != api.OK {
					continue
				}
				count++
				if e := dialect.Match(d, l, got); e != api.OK {
					t.Errorf("%s of %s gives %s: %d", said(d), l, got, e)
				}
				for i := range got {
					got[i] = "i63"
					if e := dialect.Match(d, l, got); e != api.ErrTypes {
						t.Errorf("%s of %s does not give %s: %d", said(d), l, got, e)
					}
				}
			}
		}
	}
	if count < 1000 {
		t.Errorf("only %d lists", count)
	}
}
