package attrs_test

import (
	"fmt"
	"math"
	"slices"
	"strconv"
	"strings"

	"demotic/api"
)

// Data and a second reading of the definitions, which the tests of several promises use.

func integer(name string, n int64) api.Attr { return api.Attr{Name: name, Kind: api.Int, Int: n} }
func text(name, s string) api.Attr          { return api.Attr{Name: name, Kind: api.Text, Text: s} }
func symbol(name, s string) api.Attr        { return api.Attr{Name: name, Kind: api.Symbol, Text: s} }
func typed(name, s string) api.Attr         { return api.Attr{Name: name, Kind: api.Type, Text: s} }
func ints(name string, l ...int64) api.Attr {
	return api.Attr{Name: name, Kind: api.Ints, Ints: l}
}
func typeList(name string, l ...string) api.Attr {
	return api.Attr{Name: name, Kind: api.Types, Texts: l}
}

// longestName has just MaxName bytes.
var longestName = "a" + strings.Repeat("_9z", 20)[:api.MaxName-1]

// said is what values look like, with blanks between them.
func said(l ...any) string {
	return strings.TrimSuffix(fmt.Sprintln(l...), "\n")
}

// same tells whether two attributes are equal data; nil and empty lists are the same.
func same(a, b api.Attr) bool {
	return a.Name == b.Name && a.Kind == b.Kind && a.Int == b.Int && a.Text == b.Text && slices.Equal(a.Ints, b.Ints) && slices.Equal(a.Texts, b.Texts)
}

func sameList(l, m []api.Attr) bool { return slices.EqualFunc(l, m, same) }

// deep returns a copy that shares no memory.
func deep(l []api.Attr) []api.Attr {
	m := slices.Clone(l)
	for i := range m {
		m[i].Ints, m[i].Texts = slices.Clone(m[i].Ints), slices.Clone(m[i].Texts)
	}
	return m
}

// everyByte has each byte once.
func everyByte() string {
	var l []byte
	for b := range 256 {
		l = append(l, byte(b))
	}
	return string(l)
}

// rightAttrs are right, and no two of them are the same.
func rightAttrs() []api.Attr {
	var l []api.Attr
	for _, name := range []string{"a", "a0", "a_", "aa", "b", "value", longestName} {
		for _, n := range []int64{0, 1, -1, 5, 9, 10, -10, 100, math.MaxInt64, math.MinInt64} {
			l = append(l, integer(name, n))
		}
		for _, s := range []string{"", "a", "a b", "a!", "A", "f", "i32", "5", "x\"y", "\\", "\n", "\\n", "\x00", "\x1f", "\x7f", "\x80", "\xff", "\u00e9", "{a = 5, b = 6}", "[1, 2]", everyByte(), strings.Repeat("\x00", 1000), strings.Repeat("x", 1000)} {
			l = append(l, text(name, s))
		}
		for _, s := range []string{"f", "a", "main", "f_1", "index", "i32", longestName} {
			l = append(l, symbol(name, s))
		}
		for _, s := range []string{"i1", "i32", "index", "mem<4x3xi32>", "mem<i8>", "arr<0xindex>", "!calc.num", "!" + strings.Repeat("a", 28) + "." + strings.Repeat("b", 30)} {
			l = append(l, typed(name, s))
		}
		l = append(l, ints(name), ints(name, 0), ints(name, 1), ints(name, 1, 2), ints(name, 1, -2), ints(name, 12), ints(name, math.MinInt64, math.MaxInt64), ints(name, slices.Repeat([]int64{math.MinInt64}, api.MaxList)...))
		l = append(l, typeList(name), typeList(name, "i1"), typeList(name, "i1", "index"), typeList(name, "mem<4x3xi8>", "!a.b", "arr<i8>"), typeList(name, slices.Repeat([]string{"i1"}, api.MaxList)...))
	}
	return l
}

// noNames are strings that are no names.
var noNames = []string{"", " ", "A", "aB", "1", "1a", "_", "_a", "a-b", "a.b", "a b", " a", "a ", "a\n", "a\x00", "a,", "a=", "\u00e9", "a\u00e9", "\xff", "a\xff", "@a", "{a", longestName + "x", strings.Repeat("a", 1000)}

// wrongAttrs are all the attributes that are not right for one reason only.
func wrongAttrs() []api.Attr {
	var l []api.Attr
	for _, name := range noNames {
		l = append(l, integer(name, 5), text(name, "x"), symbol(name, "f"), typed(name, "i8"), ints(name, 1), typeList(name, "i8"))
		l = append(l, symbol("a", name))
	}
	for _, k := range []api.Kind{-1, 6, 7, math.MinInt, math.MaxInt} {
		l = append(l, api.Attr{Name: "a", Kind: k}, api.Attr{Name: "a", Kind: k, Int: 5}, api.Attr{Name: "a", Kind: k, Text: "f"})
	}
	for _, s := range []string{"", "i0", "i65", "i8 ", "mem<100x100xi8>", "x", "(i8)", "a", "@f"} {
		l = append(l, typed("a", s), typeList("a", s), typeList("a", "i8", s), typeList("a", s, "i8"))
	}
	l = append(l, text("a", strings.Repeat("x", 1001)), text("a", strings.Repeat("\n", 1001)), text("a", strings.Repeat("\u00e9", 501)))
	l = append(l, ints("a", make([]int64, api.MaxList+1)...), typeList("a", slices.Repeat([]string{"i8"}, api.MaxList+1)...))
	// A field that the kind does not use.
	for _, a := range []api.Attr{integer("a", 5), integer("a", 0), text("a", "x"), text("a", ""), symbol("a", "f"), typed("a", "i8"), ints("a", 1), ints("a"), typeList("a", "i8"), typeList("a")} {
		if a.Kind != api.Int {
			b := a
			b.Int = -1
			l = append(l, b)
		}
		if a.Kind != api.Text && a.Kind != api.Symbol && a.Kind != api.Type {
			b := a
			b.Text = "i8"
			l = append(l, b)
		}
		if a.Kind != api.Ints {
			b := a
			b.Ints = []int64{0}
			l = append(l, b)
		}
		if a.Kind != api.Types {
			b := a
			b.Texts = []string{"i8"}
			l = append(l, b)
		}
	}
	return l
}

// valueOf is a second reading of what the string of a value is.
func valueOf(a api.Attr) string {
	switch a.Kind {
	case api.Int:
		return fmt.Sprintf("%d", a.Int)
	case api.Text:
		var s strings.Builder
		for _, b := range []byte(a.Text) {
			switch {
			case strings.IndexByte(`"\`, b) >= 0:
				s.WriteString(`\` + string(rune(b)))
			case b == 10:
				s.WriteString(`\n`)
			case b < 32 || b > 126:
				fmt.Fprintf(&s, `\x%02x`, b)
			default:
				s.WriteByte(b)
			}
		}
		return `"` + s.String() + `"`
	case api.Symbol:
		return "@" + a.Text
	case api.Type:
		return a.Text
	case api.Ints:
		return "[" + strings.Trim(strings.ReplaceAll(fmt.Sprint(a.Ints), " ", ", "), "[]") + "]"
	}
	return "(" + strings.Join(a.Texts, ", ") + ")"
}

// textOf is a second reading of what the string of a list is.
func textOf(l []api.Attr) string {
	if len(l) == 0 {
		return ""
	}
	var items []string
	for _, a := range l {
		items = append(items, a.Name+" = "+valueOf(a))
	}
	return "{" + strings.Join(items, ", ") + "}"
}

// numbered returns a list of n attributes with the names a000, a001 ..
func numbered(n int) []api.Attr {
	var l []api.Attr
	for i := range n {
		name := strconv.Itoa(1000 + i)
		l = append(l, integer("a"+name[1:], int64(i)))
	}
	return l
}

// sized returns a list whose string has n bytes, for n of more than 8000.
func sized(n int) []api.Attr {
	var l []api.Attr
	item := len(textOf([]api.Attr{text("a00", strings.Repeat("\x00", 1000))}))
	for left := n - 8000; left > 0; left -= item {
		l = append(l, text(fmt.Sprintf("a%02d", len(l)), strings.Repeat("\x00", 1000)))
	}
	// The rest is shared by three, so that each has at most 1000 bytes.
	l = append(l, text("x", ""), text("y", ""), text("z", ""))
	missing := n - len(textOf(l))
	for i := range 3 {
		part := min(missing, 3900)
		l[len(l)-3+i].Text = strings.Repeat("\x00", part/4) + strings.Repeat("x", part%4)
		missing -= part
	}
	return l
}

// lists are right lists.
func lists() [][]api.Attr {
	all := [][]api.Attr{
		nil,
		{},
		{integer("a", 5), text("b", "x\"y"), symbol("c", "f"), typed("d", "i32"), ints("e", 1, -2), typeList("f", "i1", "index")},
		{ints("a"), text("b", ""), typeList("c")},
		{text("a", "}, b = {"), text("a_", ", "), text("aa", "\\"), text("b", "\"")},
		{text("a", everyByte()), text("b", everyByte())},
		{integer("a", 1), integer("a0", 2), integer("a9", 3), integer("a_", 4), integer("a_b", 5), integer("aa", 6), integer("ab", 7), integer("b", 8)},
		{integer(longestName, 1), typed("b", "i1")},
		numbered(api.MaxList),
		sized(api.MaxText),
	}
	for _, a := range rightAttrs() {
		all = append(all, []api.Attr{a})
	}
	return all
}

// wrongLists are lists that are not right.
func wrongLists() [][]api.Attr {
	all := [][]api.Attr{
		{integer("a", 1), integer("a", 1)},
		{integer("a", 1), integer("a", 2)},
		{integer("a", 1), text("a", "x")},
		{integer("b", 1), integer("a", 1)},
		{integer("aa", 1), integer("a_", 1)},
		{integer("a_", 1), integer("a0", 1)},
		{integer("aa", 1), integer("a", 1)},
		{integer("a", 1), integer("c", 1), integer("b", 1)},
		{integer("a", 1), integer("b", 1), integer("a", 1)},
		{integer("a", 1), integer("b", 1), integer("b", 1), integer("c", 1)},
		numbered(api.MaxList + 1),
		slices.Repeat([]api.Attr{integer("a", 1)}, 5000),
	}
	for _, a := range wrongAttrs() {
		all = append(all, []api.Attr{a})
		if a.Name == "a" {
			all = append(all, []api.Attr{a, integer("b", 1)}, []api.Attr{a, integer("b", 1), integer("c", 1)})
			a.Name = "m"
			all = append(all, []api.Attr{integer("b", 1), a}, []api.Attr{integer("b", 1), a, integer("n", 1)})
		}
	}
	return all
}
