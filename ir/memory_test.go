package ir_test

import (
	"fmt"
	"math"
	"reflect"
	"slices"
	"strings"
	"testing"

	"demotic/api"
	"demotic/ir"
)

// given are the arguments of a call.
type given struct {
	M, N     api.Module
	F        int
	Path     []int
	From, To int
	Op       api.Op
}

// everyCall has all calls, with what they make of their arguments.
func everyCall() map[string]func(g given) []any {
	return map[string]func(g given) []any{
		"Check":     func(g given) []any { return results(ir.Check(g.M)) },
		"Equal":     func(g given) []any { return results(ir.Equal(g.M, g.N)) },
		"Counts":    func(g given) []any { return results(ir.Counts(g.M)) },
		"Names":     func(g given) []any { return results(ir.Names(g.M, g.F)) },
		"Values":    func(g given) []any { return results(ir.Values(g.M, g.F)) },
		"Uses":      func(g given) []any { return results(ir.Uses(g.M, g.F)) },
		"Paths":     func(g given) []any { return results(ir.Paths(g.M, g.F)) },
		"At":        func(g given) []any { return results(ir.At(g.M, g.F, g.Path)) },
		"Results":   func(g given) []any { return results(ir.Results(g.M, g.F, g.Path)) },
		"Arguments": func(g given) []any { return results(ir.Arguments(g.M, g.F, g.Path, g.From)) },
		"Source":    func(g given) []any { return results(ir.Source(g.M, g.F, g.From)) },
		"Replace":   func(g given) []any { return results(ir.Replace(g.M, g.F, g.From, g.To)) },
		"Erase":     func(g given) []any { return results(ir.Erase(g.M, g.F, g.Path)) },
		"Insert":    func(g given) []any { return results(ir.Insert(g.M, g.F, g.Path, g.Op)) },
		"Swap":      func(g given) []any { return results(ir.Swap(g.M, g.F, g.Path)) },
	}
}

// givens are arguments of calls of which each one ends with OK for some of them, and with an error for others.
func givens() []given {
	var l []given
	k := ranMaker(13)
	modules := rightModules()[:9]
	functions(modules, func(m api.Module, f int, lines []line) {
		values := len(typesOf(m.Ops[f]))
		for i, x := range lines {
			g := given{M: m, N: m, F: f, Path: x.path, From: i % (values + 1), To: i / 2, Op: k.inserted(x.region, values)}
			if x.block >= 0 {
				g.From = x.block
			}
			g.Op.Attrs = []api.Attr{{Name: "a", Kind: api.Ints, Ints: []int64{5}}, {Name: "b", Kind: api.Types, Texts: []string{"i5"}}}
			l = append(l, g)
		}
	})
	return l
}

// Arguments are neither changed nor kept, what lies beyond the lengths of their slices is not read, and results are new memory (R4).
func TestMemory(t *testing.T) {
	t.Parallel()
	fine := map[string]int{}
	for _, plain := range givens() {
		for name, call := range everyCall() {
			g := deep(plain, 2)
			before := whole(reflect.ValueOf(g))
			got := call(g)
			if whole(reflect.ValueOf(g)) != before {
				t.Errorf("%s changed its arguments: %s", name, said(g))
			}
			if want := call(plain); said(got...) != said(want...) {
				t.Errorf("%s of %s: %s, and without room %s", name, said(g), said(got...), said(want...))
			}
			if got[len(got)-1] == api.OK {
				fine[name]++
			}
			var l []span
			for _, x := range got {
				l = append(l, spans(reflect.ValueOf(x))...)
			}
			slices.SortFunc(l, func(a, b span) int { return int(int64(a.from) - int64(b.from)) })
			for i, x := range l {
				if i > 0 && x.from < l[i-1].to {
					t.Errorf("two lists of what %s of %s returns share memory", name, said(g))
				}
			}
			for _, x := range spans(reflect.ValueOf(g)) {
				if slices.ContainsFunc(l, func(y span) bool { return x.from < y.to && y.from < x.to }) {
					t.Errorf("what %s of %s returns shares memory with its arguments", name, said(g))
				}
			}
		}
	}
	for name := range everyCall() {
		if fine[name] < 20 {
			t.Errorf("%s ended with OK %d times", name, fine[name])
		}
	}
}

// Data that stand in several places are not one operation there.
func TestSharedMemory(t *testing.T) {
	shared := []api.Op{op("t.a", []int{0}, "i8"), op("t.b", []int{0}, "i8")}
	m := module(fn(block([]string{"i1"}, shared...), block([]string{"i2"}, shared...)), fn(block([]string{"i3"}, shared...)))
	for i, c := range [][2]string{
		{said(ir.Values(m, 0)), "[i1 i8 i8 i2 i8 i8] 0"},
		{said(ir.Results(m, 0, []int{1, 1})), "[5] 0"},
		{said(ir.Source(m, 0, 4)), "[1 0] -1 0 0"},
		{said(ir.Uses(m, 0)), "[4 0 0 0 0 0] 0"},
	} {
		if c[0] != c[1] {
			t.Errorf("case %d: %s, want %s", i, c[0], c[1])
		}
	}
	n, e := ir.Erase(m, 0, []int{1, 0})
	if got, f := ir.Names(n, 0); e != api.OK || f != api.OK || said(got) != "[t.a t.b t.b]" {
		t.Error(got, e, f)
	}
	n, e = ir.Swap(m, 0, []int{0, 0})
	if got, f := ir.Names(n, 0); e != api.OK || f != api.OK || said(got) != "[t.b t.a t.a t.b]" {
		t.Error(got, e, f)
	}
	if got, f := ir.Names(n, 1); f != api.OK || said(got) != "[t.a t.b]" {
		t.Error(got, f)
	}
}

// FuzzCalls holds every call against P1: it ends, does not panic, and says the same twice (R7); and Check and the edits against the second reading.
func FuzzCalls(f *testing.F) {
	for seed := range 40 {
		f.Add([]byte(strings.Repeat(fmt.Sprint(seed, "abc", seed*seed, "\x00\xff"), 20)), seed, seed%3, byte(seed))
	}
	f.Fuzz(func(t *testing.T, data []byte, change, number int, way byte) {
		next := func(n int) int {
			if len(data) == 0 {
				return 0
			}
			b := data[0]
			data = data[1:]
			return int(b) % n
		}
		k := &maker{next: next, budget: 20}
		m := k.module()
		g := given{M: m, N: deep(m, 1), F: number, From: next(8), To: next(8), Op: k.inserted(1+next(3), 1+next(8))}
		for range next(9) {
			g.Path = append(g.Path, next(3))
		}
		if change > 0 {
			l := leaves(reflect.ValueOf(&g.M).Elem())
			changeLeaf(l[change%len(l)], int(way)%2)
		}
		if math.MinInt < change && change < 0 {
			l := leaves(reflect.ValueOf(&g.Op).Elem())
			changeLeaf(l[-change%len(l)], int(way)%2)
		}
		if e := ir.Check(g.M); (e == api.OK) != hasRightForm(g.M) || e != api.OK && e != api.ErrForm {
			t.Errorf("Check(%s): %d", said(g.M), e)
		}
		for name, call := range everyCall() {
			got := call(g)
			if said(got...) != said(call(g)...) {
				t.Errorf("%s of %s: two answers", name, said(g))
			}
			if n, ok := got[0].(api.Module); ok && !hasRightForm(n) {
				t.Errorf("%s of %s: %s", name, said(g), said(n))
			}
			if e := got[len(got)-1]; e != api.OK && name != "Check" && !failed(got, e.(api.Errno)) {
				t.Errorf("%s of %s: %s", name, said(g), said(got...))
			}
		}
	})
}
