package asm_test

import (
	"slices"
	"strings"
	"testing"

	"demotic/api"
	"demotic/asm"
	"demotic/ir"
)

func TestExamples(t *testing.T) {
	second := `"func.func"() {name = @f, results = ()} ({ ^a(): "func.return"() : () -> () }) : () -> () // f`
	returning := module(fn(block(nil, op("func.return", nil))))
	returning.Ops[0].Attrs = []api.Attr{{Name: "name", Kind: api.Symbol, Text: "f"}, {Name: "results", Kind: api.Types}}
	for i, c := range [][2]string{
		{said(asm.Print(example())), exampleText + " 0"},
		{said(asm.Parse(exampleText)), said(example(), 0)},
		{said(asm.Parse(second)), said(returning, 0)},
		{said(asm.Where(second)), "0 0"},
		{said(asm.Canonical(second)), moduleText(returning) + " 0"},
		{said(asm.Lines(example())), "5 0"},
		{said(asm.PrintOp(example(), 0, []int{0, 0})), "  %2 = \"arith.add\"(%0, %1) : (i32, i32) -> (i32)\n 0"},
	} {
		if c[0] != c[1] {
			t.Errorf("case %d: %s, want %s", i, c[0], c[1])
		}
	}
}

// everyPart has all that an operation can have, and regions inside of regions.
const everyPart = `"func.func"() {a = -5, b = "x\"\\\n\x00y", c = @f, d = mem<4x3xi32>, e = [1, -2], f = (i1, index), g = [], h = ()} ({
^0(%0: i1, %1: index):
  %2, %3 = "t.two"(%8, %0, %0)[^1(%1, %7), ^0, ^1] {n = 0} ({
  ^0():
    %4 = "t.a"() ({
    ^0(%5: !toy.t):
      "t.deep"(%5) : (!toy.t) -> ()
    ^1(%6: i8):
    }, {
    ^0():
    }) : () -> (i64)
  }) : (arr<2xi8>, i1, i1) -> (i1, i8)
  "t.b"()[^0] : () -> ()
^1(%7: mem<i8>):
  %8 = "t.c"(%7) : (mem<i8>) -> (arr<2xi8>)
}) : () -> ()
"func.func"() ({
^0():
}) : () -> ()
`

func everyPartModule() api.Module {
	two := around(op("t.two", []int{8, 0, 0}, "i1", "i8"), block(nil, api.Op{Name: "t.a", Results: words("i64"), Regions: []api.Region{
		{Blocks: []api.Block{block(words("!toy.t"), op("t.deep", []int{5})), block(words("i8"))}},
		{Blocks: []api.Block{block(nil)}},
	}}))
	two.Succs = []api.Succ{{Block: 1, Args: []int{1, 7}}, {}, {Block: 1}}
	two.Attrs = []api.Attr{{Name: "n"}}
	f := fn(
		block(words("i1 index"), two, api.Op{Name: "t.b", Succs: []api.Succ{{}}}),
		block(words("mem<i8>"), op("t.c", []int{7}, "arr<2xi8>")),
	)
	f.Attrs = []api.Attr{
		{Name: "a", Int: -5},
		{Name: "b", Kind: api.Text, Text: "x\"\\\n\x00y"},
		{Name: "c", Kind: api.Symbol, Text: "f"},
		{Name: "d", Kind: api.Type, Text: "mem<4x3xi32>"},
		{Name: "e", Kind: api.Ints, Ints: []int64{1, -2}},
		{Name: "f", Kind: api.Types, Texts: words("i1 index")},
		{Name: "g", Kind: api.Ints},
		{Name: "h", Kind: api.Types},
	}
	return module(f, fn(block(nil)))
}

func TestP7_1EveryPart(t *testing.T) {
	m := everyPartModule()
	if got, e := asm.Print(m); got != everyPart || e != api.OK {
		t.Errorf("%s %d", got, e)
	}
	if got, e := asm.Lines(m); got != strings.Count(everyPart, "\n") || e != api.OK {
		t.Errorf("%d %d", got, e)
	}
	lines := slices.Collect(strings.Lines(everyPart))
	for _, c := range []struct {
		f        int
		path     []int
		from, to int
		e        api.Errno
	}{
		{0, []int{0, 0}, 2, 12, api.OK},
		{0, []int{0, 0, 0, 0, 0}, 4, 11, api.OK},
		{0, []int{0, 0, 0, 0, 0, 0, 0, 0}, 6, 7, api.OK},
		{0, []int{0, 1}, 12, 13, api.OK},
		{0, []int{1, 0}, 14, 15, api.OK},
		{0, nil, 0, 0, api.ErrNone},
		{0, []int{0}, 0, 0, api.ErrNone},
		{0, []int{0, 0, 0}, 0, 0, api.ErrNone},
		{0, []int{0, 2}, 0, 0, api.ErrNone},
		{0, []int{2, 0}, 0, 0, api.ErrNone},
		{0, []int{0, -1}, 0, 0, api.ErrNone},
		{0, []int{0, 1, 0, 0, 0}, 0, 0, api.ErrNone},
		{1, []int{0, 0}, 0, 0, api.ErrNone},
		{2, []int{0, 0}, 0, 0, api.ErrArg},
		{-1, nil, 0, 0, api.ErrArg},
	} {
		want := strings.Join(lines[c.from:c.to], "")
		if got, e := asm.PrintOp(m, c.f, c.path); got != want || e != c.e {
			t.Errorf("PrintOp of %d %v: %s %d, want %s %d", c.f, c.path, got, e, want, c.e)
		}
	}
}

func TestP7_1SecondReading(t *testing.T) {
	for _, m := range rightModules() {
		want := moduleText(m)
		if got, e := asm.Print(m); got != want || e != api.OK {
			t.Errorf("Print: %s %d, want %s", got, e, want)
		}
		if got, e := asm.Lines(m); got != strings.Count(want, "\n") || e != api.OK {
			t.Errorf("Lines of %s: %d %d", want, got, e)
		}
		for f := range m.Ops {
			_, texts := functionText(m.Ops[f], plainStyle())
			paths, e := ir.Paths(m, f)
			if e != api.OK || len(paths) != len(texts.by)-1 {
				t.Fatalf("%d paths, %d texts, %d", len(paths), len(texts.by), e)
			}
			for _, path := range paths {
				if got, e := asm.PrintOp(m, f, path); got != texts.by[said(path)] || e != api.OK {
					t.Errorf("PrintOp of %d %v: %s %d, want %s", f, path, got, e, texts.by[said(path)])
				}
			}
		}
	}
}

// sized is a module whose string has so many bytes.
func sized(bytes int) api.Module {
	text := func(n int) api.Op {
		f := fn(block(nil))
		f.Attrs = []api.Attr{{Name: "a", Kind: api.Text, Text: strings.Repeat("x", n)}}
		return f
	}
	const usual = 500
	least := len(moduleText(module(text(0))))
	n := (bytes - least) / (least + usual)
	rest := bytes - least - n*(least+usual)
	return module(append(long(n, text(usual)), text(rest))...)
}

// longOperation has a string that is too large for a whole module.
func longOperation() api.Op {
	var l []api.Attr
	for i := range api.MaxList {
		l = append(l, api.Attr{Name: "a" + string(rune('a'+i/26)) + string(rune('a'+i%26)), Kind: api.Text, Text: strings.Repeat("\x00", 1000)})
	}
	return noted(l...)
}

func TestP7_1Large(t *testing.T) {
	for _, c := range []struct {
		m    api.Module
		want api.Errno
	}{
		{sized(api.MaxText), api.OK},
		{sized(api.MaxText + 1), api.ErrLarge},
		{alone(longOperation()), api.ErrLarge},
		{alone(longOperation(), longOperation(), op("t.a", nil)), api.ErrLarge},
		{module(fn(block(words("i8"), long(400, op("t.a", long(api.MaxList, 0)))...))), api.ErrLarge},
	} {
		text := moduleText(c.m)
		if (len(text) > api.MaxText) != (c.want == api.ErrLarge) {
			t.Fatalf("the text has %d bytes", len(text))
		}
		got, e := asm.Print(c.m)
		if e != c.want || e == api.OK && got != text || e != api.OK && got != "" {
			t.Errorf("Print of %d bytes: %d, %d", len(text), len(got), e)
		}
		if n, e := asm.Lines(c.m); n != strings.Count(text, "\n") || e != api.OK {
			t.Errorf("Lines of %d bytes: %d %d", len(text), n, e)
		}
	}
	if n := len(moduleText(sized(api.MaxText))); n != api.MaxText {
		t.Errorf("%d bytes", n)
	}
	// The string of an operation is returned, however long it is and the others are.
	m := alone(longOperation(), around(op("t.a", []int{0}, "i8"), block(nil, longOperation(), op("t.b", []int{10}))))
	_, texts := functionText(m.Ops[0], plainStyle())
	for _, path := range [][]int{{0, 0}, {0, 1}, {0, 1, 0, 0, 0}, {0, 1, 0, 0, 1}} {
		if got, e := asm.PrintOp(m, 0, path); got != texts.by[said(path)] || e != api.OK {
			t.Errorf("PrintOp of %v: %d bytes, %d", path, len(got), e)
		}
	}
}

// ErrForm comes before all other errors, and next to errors stand zero values.
func TestWrongForms(t *testing.T) {
	large := alone(longOperation(), longOperation(), op("t", nil))
	for _, m := range append(formless(), large) {
		for name, c := range map[string][2]string{
			"Print":           {said(asm.Print(m)), " 30"},
			"PrintOp":         {said(asm.PrintOp(m, 0, []int{0, 0})), " 30"},
			"PrintOp, number": {said(asm.PrintOp(m, -1, []int{0, 0})), " 30"},
			"PrintOp, path":   {said(asm.PrintOp(m, 0, nil)), " 30"},
			"Lines":           {said(asm.Lines(m)), "0 30"},
		} {
			if c[0] != c[1] {
				t.Errorf("%s of %.200s: %s, want %s", name, said(m), c[0], c[1])
			}
		}
	}
	for _, c := range [][2]string{
		{said(asm.PrintOp(api.Module{}, 0, []int{0, 0})), " 1"},
		{said(asm.PrintOp(example(), 1, nil)), " 1"},
		{said(asm.PrintOp(example(), -1, []int{0, 0})), " 1"},
		{said(asm.PrintOp(example(), 0, nil)), " 4"},
		{said(asm.PrintOp(example(), 0, []int{0, 2})), " 4"},
		{said(asm.Print(api.Module{})), " 0"},
		{said(asm.Lines(api.Module{})), "0 0"},
	} {
		if c[0] != c[1] {
			t.Errorf("%s, want %s", c[0], c[1])
		}
	}
}

// Data that contain themselves have not the right form.
func TestSelfContaining(t *testing.T) {
	ops := []api.Op{op("t.a", nil), op("t.b", nil)}
	ops[1].Regions = []api.Region{{Blocks: []api.Block{{Ops: ops}}}}
	top := []api.Op{fn(block(nil))}
	top[0].Regions[0].Blocks[0].Ops = top
	for _, m := range []api.Module{alone(ops...), {Ops: top}} {
		for _, got := range []string{said(asm.Print(m)), said(asm.PrintOp(m, 0, []int{0, 0})), said(asm.Lines(m))} {
			if got != " 30" && got != "0 30" {
				t.Error(got)
			}
		}
	}
}
