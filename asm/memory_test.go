package asm_test

import (
	"fmt"
	"reflect"
	"slices"
	"strings"
	"testing"

	"demotic/api"
	"demotic/asm"
	"demotic/ir"
)

// roomy returns a copy that shares no memory. What lies beyond the lengths of its slices is junk.
func roomy(m api.Module) api.Module {
	return roomyValue(reflect.ValueOf(m)).Interface().(api.Module)
}

func roomyValue(v reflect.Value) reflect.Value {
	c := reflect.New(v.Type()).Elem()
	switch v.Kind() {
	case reflect.Slice:
		c = reflect.MakeSlice(v.Type(), v.Len()+2, v.Len()+2)
		for i := range v.Len() {
			c.Index(i).Set(roomyValue(v.Index(i)))
		}
		spoil(c.Slice(v.Len(), v.Len()+2))
		return c.Slice(0, v.Len())
	case reflect.Struct:
		for i := range v.NumField() {
			c.Field(i).Set(roomyValue(v.Field(i)))
		}
	default:
		c.Set(v)
	}
	return c
}

// spoil changes all the memory of a value, and what lies beyond the lengths of its slices.
func spoil(v reflect.Value) {
	switch v.Kind() {
	case reflect.Slice:
		for i := range v.Cap() {
			spoil(v.Slice(0, v.Cap()).Index(i))
		}
	case reflect.Struct:
		for i := range v.NumField() {
			spoil(v.Field(i))
		}
	case reflect.String:
		v.SetString("spoilt")
	case reflect.Int, reflect.Int64:
		v.SetInt(77)
	}
}

// whole is what a value looks like, with what lies beyond the lengths of its slices.
func whole(b *strings.Builder, v reflect.Value) {
	switch v.Kind() {
	case reflect.Slice:
		fmt.Fprint(b, v.Len(), "[")
		for i := range v.Cap() {
			whole(b, v.Slice(0, v.Cap()).Index(i))
		}
		b.WriteString("]")
	case reflect.Struct:
		for i := range v.NumField() {
			whole(b, v.Field(i))
		}
	default:
		fmt.Fprint(b, v.Interface(), " ")
	}
}

func wholeOf(x any) string {
	var b strings.Builder
	whole(&b, reflect.ValueOf(x))
	return b.String()
}

// span is the memory of a slice, up to its capacity.
type span struct{ from, to uintptr }

func spans(v reflect.Value) []span {
	var l []span
	switch v.Kind() {
	case reflect.Slice:
		if v.Cap() > 0 {
			l = append(l, span{v.Pointer(), v.Pointer() + uintptr(v.Cap())*v.Type().Elem().Size()})
		}
		for i := range v.Len() {
			l = append(l, spans(v.Index(i))...)
		}
	case reflect.Struct:
		for i := range v.NumField() {
			l = append(l, spans(v.Field(i))...)
		}
	}
	return l
}

// Arguments are neither changed nor kept, what lies beyond the lengths of their slices is not read, and results are new memory (R4).
func TestMemory(t *testing.T) {
	for _, plain := range append(rightModules()[:60], everyPartModule()) {
		m := roomy(plain)
		before := wholeOf(m)
		text := moduleText(plain)
		if got, e := asm.Print(m); got != text || e != api.OK {
			t.Errorf("Print of %s: %s %d", text, got, e)
		}
		if n, e := asm.Lines(m); n != strings.Count(text, "\n") || e != api.OK {
			t.Errorf("Lines of %s: %d %d", text, n, e)
		}
		for f := range m.Ops {
			paths, _ := ir.Paths(plain, f)
			for _, path := range paths {
				given := append(slices.Clone(path), 77, 78)
				if got, e := asm.PrintOp(m, f, given[:len(path)]); said(got, e) != said(asm.PrintOp(plain, f, path)) {
					t.Errorf("PrintOp of %s at %v: %s %d", text, path, got, e)
				}
				if !slices.Equal(given, append(path, 77, 78)) {
					t.Errorf("PrintOp changed a path: %v", given)
				}
			}
		}
		if wholeOf(m) != before {
			t.Errorf("an argument was changed: %s", said(m))
		}
		parsed, _ := asm.Parse(text)
		l := spans(reflect.ValueOf(parsed))
		slices.SortFunc(l, func(a, b span) int { return int(int64(a.from) - int64(b.from)) })
		for i, x := range l {
			if i > 0 && x.from < l[i-1].to {
				t.Errorf("two lists of what Parse of %s returns share memory", text)
			}
		}
		spoil(reflect.ValueOf(&parsed).Elem())
		if again, _ := asm.Parse(text); !equal(again, plain) {
			t.Errorf("Parse of %s returns what was changed: %s", text, said(again))
		}
	}
	first, _ := asm.Tokens(exampleText)
	spoil(reflect.ValueOf(first))
	if again, _ := asm.Tokens(exampleText); again[0] != `"func.func"` {
		t.Errorf("%q", again)
	}
}

// FuzzCalls holds every call against P1, for strings as they come and for modules, and what is read against the second reading.
func FuzzCalls(f *testing.F) {
	for seed := range uint64(30) {
		k := ranMaker(seed)
		k.budget = 4
		f.Add(k.disguised(k.module()), []byte(strings.Repeat(fmt.Sprint(seed, "abc", seed*seed, "\x00\xff"), 20)))
	}
	for _, marked := range wrongTokens() {
		f.Add(strings.Replace(marked, "|", "", 1), []byte("x"))
	}
	f.Fuzz(func(t *testing.T, s string, data []byte) {
		if len(s) < 3000 {
			hold(t, s, verdictOn(s))
			l := spots(s)
			tokens, e := asm.Tokens(s)
			if isRight(l) != (e == api.OK) || e == api.OK && !slices.Equal(tokens, tokensOf(l)) {
				t.Errorf("Tokens(%q): %q %d", s, tokens, e)
			}
		}
		next := func(n int) int {
			if len(data) == 0 {
				return 0
			}
			b := data[0]
			data = data[1:]
			return int(b) % n
		}
		k := &maker{next: next, budget: 12}
		m := k.module()
		text := moduleText(m)
		if got, e := asm.Print(m); got != text || e != api.OK {
			t.Errorf("Print: %s %d, want %s", got, e, text)
		}
		changed := k.spread(k.change(tokensOf(spots(text))))
		hold(t, changed, verdictOn(changed))
		m = roomy(m)
		spoil(reflect.ValueOf(&m.Ops[next(len(m.Ops))]).Elem().Field(next(6)))
		if got, e := asm.Print(m); e != ir.Check(m) || e == api.OK && got != moduleText(m) || e != api.OK && got != "" {
			t.Errorf("Print of %s: %s %d", said(m), got, e)
		}
		for _, path := range [][]int{nil, {0, 0}, {next(4), next(4)}, {0, next(4), next(2), next(2), next(2)}} {
			got, e := asm.PrintOp(m, 0, path)
			_, want := ir.At(m, 0, path)
			if e != want || (got == "") != (e != api.OK) {
				t.Errorf("PrintOp of %s: %s %d, want %d", said(m), got, e, want)
			}
		}
	})
}
