package attrs_test

import (
	"cmp"
	"slices"
	"testing"

	"demotic/api"
	"demotic/attrs"
)

func TestKindNumbers(t *testing.T) {
	if got := said(int(api.Int), int(api.Text), int(api.Symbol), int(api.Type), int(api.Ints), int(api.Types)); got != "0 1 2 3 4 5" {
		t.Error(got)
	}
}

func TestP2_1Check(t *testing.T) {
	for _, l := range lists() {
		if e := attrs.Check(l); e != api.OK {
			t.Errorf("Check(%.80s): %d", textOf(l), e)
		}
	}
	for _, l := range wrongLists() {
		if e := attrs.Check(l); e != api.ErrAttr {
			t.Errorf("Check(%.80s): %d", said(l), e)
		}
	}
}

// ErrAttr comes before all other errors, and next to it stand zero values.
func TestWrongAttributes(t *testing.T) {
	fine := integer("z", 1)
	for _, a := range wrongAttrs() {
		for name, c := range map[string][2]string{
			"Set":        {said(attrs.Set(nil, a)), "[] 20"},
			"Set full":   {said(attrs.Set(numbered(api.MaxList), a)), "[] 20"},
			"Equal":      {said(attrs.Equal(a, fine)), "false 20"},
			"Equal 2":    {said(attrs.Equal(fine, a)), "false 20"},
			"Equal self": {said(attrs.Equal(a, a)), "false 20"},
			"Cmp":        {said(attrs.Cmp(a, fine)), "0 20"},
			"Cmp 2":      {said(attrs.Cmp(fine, a)), "0 20"},
			"Value":      {said(attrs.Value(a)), " 20"},
		} {
			if c[0] != c[1] {
				t.Errorf("%s of %.80s: %s, want %s", name, said(a), c[0], c[1])
			}
		}
	}
}

func TestWrongLists(t *testing.T) {
	for _, l := range wrongLists() {
		for name, c := range map[string][2]string{
			"Get":        {said(attrs.Get(l, "a")), said(api.Attr{}, 20)},
			"Get none":   {said(attrs.Get(l, "q")), said(api.Attr{}, 20)},
			"Drop":       {said(attrs.Drop(l, "a")), "[] 20"},
			"Drop none":  {said(attrs.Drop(l, "q")), "[] 20"},
			"Set":        {said(attrs.Set(l, integer("a", 1))), "[] 20"},
			"Set new":    {said(attrs.Set(l, integer("q", 1))), "[] 20"},
			"Merge":      {said(attrs.Merge(l, nil)), "[] 20"},
			"Merge 2":    {said(attrs.Merge(nil, l)), "[] 20"},
			"Merge full": {said(attrs.Merge(l, numbered(api.MaxList))), "[] 20"},
			"Merge too":  {said(attrs.Merge(numbered(api.MaxList), l)), "[] 20"},
			"Print":      {said(attrs.Print(l)), " 20"},
		} {
			if c[0] != c[1] {
				t.Errorf("%s of %.80s: %.80s, want %s", name, said(l), c[0], c[1])
			}
		}
	}
	// The string of this one is too large, too.
	if s, e := attrs.Print(append(sized(api.MaxText+1), text("a", ""))); s != "" || e != api.ErrAttr {
		t.Errorf("%d bytes, %d", len(s), e)
	}
}

// subsets are all lists with some of the names a to d, with the values of one of two sides.
func subsets(side int64) [][]api.Attr {
	var all [][]api.Attr
	for set := range 16 {
		var l []api.Attr
		for i, name := range []string{"a", "b", "c", "d"} {
			if set>>i&1 == 1 {
				l = append(l, ints(name, side, int64(i)))
			}
		}
		all = append(all, l)
	}
	return all
}

// united is a second reading of Merge.
func united(l, m []api.Attr) []api.Attr {
	byName := map[string]api.Attr{}
	for _, a := range slices.Concat(l, m) {
		byName[a.Name] = a
	}
	var all []api.Attr
	for _, a := range byName {
		all = append(all, a)
	}
	slices.SortFunc(all, func(a, b api.Attr) int { return cmp.Compare(a.Name, b.Name) })
	return all
}

func TestP2_1Merge(t *testing.T) {
	for _, l := range subsets(1) {
		for _, m := range subsets(2) {
			if got, e := attrs.Merge(l, m); e != api.OK || !sameList(got, united(l, m)) {
				t.Errorf("Merge(%s, %s): %.200s, %d", textOf(l), textOf(m), said(got), e)
			}
		}
	}
	// The one that stays is that of m, of whatever kind.
	l := []api.Attr{integer("a", 1), text("b", "x"), symbol("c", "f")}
	m := []api.Attr{typed("a", "i8"), typeList("c", "i1"), integer("d", 2)}
	want := []api.Attr{typed("a", "i8"), text("b", "x"), typeList("c", "i1"), integer("d", 2)}
	if got, e := attrs.Merge(l, m); e != api.OK || !sameList(got, want) {
		t.Error(got, e)
	}
}

func TestP2_1MergeLarge(t *testing.T) {
	full := numbered(api.MaxList)
	for _, c := range []struct {
		l, m []api.Attr
		want api.Errno
	}{
		{full, full, api.OK},
		{full, full[10:20], api.OK},
		{full[:50], full[50:], api.OK},
		{full[50:], full[:50], api.OK},
		{full[:60], full[40:], api.OK},
		{full, []api.Attr{integer("b", 1)}, api.ErrLarge},
		{full, []api.Attr{integer("a", 1)}, api.ErrLarge},
		{[]api.Attr{integer("b", 1)}, full, api.ErrLarge},
		{full[:99], []api.Attr{integer("b", 1), integer("c", 1)}, api.ErrLarge},
		{full[:99], []api.Attr{integer("a000", 1), integer("c", 1)}, api.OK},
	} {
		got, e := attrs.Merge(c.l, c.m)
		if e != c.want || e != api.OK && len(got) > 0 || e == api.OK && !sameList(got, united(c.l, c.m)) {
			t.Errorf("Merge of %d and %d: %d, %d", len(c.l), len(c.m), len(got), e)
		}
	}
}

// absentNames are in none of the lists.
var absentNames = []string{"q", "a1", "a0a", "a1000", "c_", "A", "a000 "}

func TestP2_1Get(t *testing.T) {
	for _, l := range append(subsets(1), lists()...) {
		for _, a := range l {
			if got, e := attrs.Get(l, a.Name); e != api.OK || !same(got, a) {
				t.Errorf("Get(%.80s, %s): %.200s, %d", textOf(l), a.Name, said(got), e)
			}
		}
		for _, name := range slices.Concat(absentNames, noNames) {
			if got, e := attrs.Get(l, name); e != api.ErrNone || !same(got, api.Attr{}) {
				t.Errorf("Get(%.80s, %q): %.200s, %d", textOf(l), name, said(got), e)
			}
		}
	}
}

func TestP2_1Drop(t *testing.T) {
	for _, l := range append(subsets(1), lists()...) {
		for i, a := range l {
			want := slices.Concat(l[:i], l[i+1:])
			if got, e := attrs.Drop(l, a.Name); e != api.OK || !sameList(got, want) {
				t.Errorf("Drop(%.80s, %s): %.200s, %d", textOf(l), a.Name, said(got), e)
			}
		}
		for _, name := range slices.Concat(absentNames, noNames) {
			if got, e := attrs.Drop(l, name); e != api.ErrNone || len(got) > 0 {
				t.Errorf("Drop(%.80s, %q): %.200s, %d", textOf(l), name, said(got), e)
			}
		}
	}
}

func TestP2_1Set(t *testing.T) {
	for _, l := range append(subsets(1), numbered(api.MaxList-1)) {
		for _, a := range []api.Attr{integer("a", 7), text("b", "x"), symbol("c", "f"), typed("d", "i8"), ints("a_", 1), typeList("e", "i1"), integer("a000", -1), integer(longestName, 3)} {
			if got, e := attrs.Set(l, a); e != api.OK || !sameList(got, united(l, []api.Attr{a})) {
				t.Errorf("Set(%.80s, %s): %.200s, %d", textOf(l), said(a), said(got), e)
			}
		}
	}
	full := numbered(api.MaxList)
	for i := range full {
		want := deep(full)
		want[i] = symbol(full[i].Name, "f")
		if got, e := attrs.Set(full, want[i]); e != api.OK || !sameList(got, want) {
			t.Errorf("Set in a full list: %d, %d", len(got), e)
		}
	}
	for _, a := range []api.Attr{integer("a", 1), integer("a0000", 1), integer("b", 1)} {
		if got, e := attrs.Set(full, a); e != api.ErrLarge || len(got) > 0 {
			t.Errorf("Set of a new name in a full list: %d, %d", len(got), e)
		}
	}
}

func TestP2_2Equal(t *testing.T) {
	all := rightAttrs()
	for i, a := range all {
		for j, b := range deep(all) {
			if got, e := attrs.Equal(a, b); e != api.OK || got != (i == j) {
				t.Errorf("Equal(%.80s, %.80s): %v, %d", said(a), said(b), got, e)
			}
		}
	}
	for _, c := range [][2]api.Attr{
		{integer("a", 1), {Name: "a", Int: 1, Ints: []int64{}, Texts: []string{}}},
		{ints("a"), {Name: "a", Kind: api.Ints, Ints: []int64{}}},
		{typeList("a"), {Name: "a", Kind: api.Types, Texts: []string{}}},
	} {
		got, e := attrs.Equal(c[0], c[1])
		back, f := attrs.Equal(c[1], c[0])
		if !got || e != api.OK || !back || f != api.OK {
			t.Errorf("Equal(%#v, %#v): %v, %d, %v, %d", c[0], c[1], got, e, back, f)
		}
	}
}

func TestP2_2Cmp(t *testing.T) {
	for _, c := range []struct {
		a, b api.Attr
		want int
	}{
		// By name, whatever the rest is.
		{integer("a", 1), integer("b", 0), -1},
		{integer("b", 0), integer("a", 1), 1},
		{typeList("a", "i8"), integer("b", 0), -1},
		{integer("a9", 1), integer("a_", 1), -1},
		{integer("a_", 1), integer("aa", 1), -1},
		{integer("aa", 1), integer("a", 1), 1},
		// By kind, whatever the value is.
		{integer("a", 9), text("a", ""), -1},
		{text("a", "x"), symbol("a", "f"), -1},
		{typed("a", "i8"), symbol("a", "z"), 1},
		{typed("a", "i8"), ints("a"), -1},
		{typeList("a"), ints("a", 1), 1},
		// By the string of the value, not by the value.
		{integer("a", 9), integer("a", 10), 1},
		{integer("a", -1), integer("a", 1), -1},
		{integer("a", -1), integer("a", -2), -1},
		{integer("a", 1), integer("a", 1), 0},
		{text("a", "\x00"), text("a", "A"), 1},
		{text("a", "\xff"), text("a", "z"), -1},
		{text("a", "a"), text("a", "a b"), 1},
		{text("a", "a"), text("a", "a!"), 1},
		{text("a", "a"), text("a", "a#"), -1},
		{text("a", "\n"), text("a", "\x00"), -1},
		{symbol("a", "f"), symbol("a", "f0"), -1},
		{typed("a", "i9"), typed("a", "i10"), 1},
		{ints("a", 1), ints("a", 1, 2), 1},
		{ints("a", 1), ints("a", 12), 1},
		{ints("a"), ints("a", 1), 1},
		{typeList("a"), typeList("a", "i1"), -1},
		{typeList("a", "i1"), typeList("a", "i1", "i1"), -1},
		{typeList("a", "i1"), typeList("a", "i16"), -1},
	} {
		if got, e := attrs.Cmp(c.a, c.b); got != c.want || e != api.OK {
			t.Errorf("Cmp(%s, %s): %d, %d, want %d", said(c.a), said(c.b), got, e, c.want)
		}
	}
	all := rightAttrs()
	values := map[int]string{}
	for i, a := range all {
		values[i] = valueOf(a)
	}
	for i, a := range all {
		for j, b := range all {
			want := cmp.Or(cmp.Compare(a.Name, b.Name), cmp.Compare(a.Kind, b.Kind), cmp.Compare(values[i], values[j]))
			if got, e := attrs.Cmp(a, b); got != want || e != api.OK {
				t.Errorf("Cmp(%.80s, %.80s): %d, %d, want %d", said(a), said(b), got, e, want)
			}
		}
	}
}

func TestP2_5SetGetDrop(t *testing.T) {
	news := []api.Attr{integer("a", 5), text("aa", "x"), symbol("m", "f"), typed("z", "i8"), ints("q", 1, 2), typeList("c0", "i1")}
	for _, l := range append(subsets(1), lists()...) {
		if len(l) == api.MaxList {
			continue
		}
		for _, a := range news {
			set, e := attrs.Set(l, a)
			if e != api.OK || attrs.Check(set) != api.OK {
				t.Errorf("Set(%.80s, %s): %d", textOf(l), said(a), e)
			}
			if got, e := attrs.Get(set, a.Name); e != api.OK || !same(got, a) {
				t.Errorf("Get of Set(%.80s, %s): %.200s, %d", textOf(l), said(a), said(got), e)
			}
			if slices.ContainsFunc(l, func(b api.Attr) bool { return b.Name == a.Name }) {
				continue
			}
			if got, e := attrs.Drop(set, a.Name); e != api.OK || !sameList(got, l) {
				t.Errorf("Drop of Set(%.80s, %s): %.200s, %d", textOf(l), said(a), said(got), e)
			}
		}
	}
}

func TestP2_5MergeWithNothing(t *testing.T) {
	for _, l := range append(subsets(1), lists()...) {
		for _, nothing := range [][]api.Attr{nil, {}, l} {
			if got, e := attrs.Merge(l, nothing); e != api.OK || !sameList(got, l) {
				t.Errorf("Merge(%.80s, %.80s): %.200s, %d", textOf(l), textOf(nothing), said(got), e)
			}
			if got, e := attrs.Merge(nothing, l); e != api.OK || !sameList(got, l) {
				t.Errorf("Merge(%.80s, %.80s): %.200s, %d", textOf(nothing), textOf(l), said(got), e)
			}
		}
	}
}

// spoil changes all that a list holds, and what lies beyond the lengths of its slices.
func spoil(l []api.Attr) {
	for _, a := range l[:cap(l)] {
		for i := range a.Ints[:cap(a.Ints)] {
			a.Ints[:cap(a.Ints)][i] = 77
		}
		for i := range a.Texts[:cap(a.Texts)] {
			a.Texts[:cap(a.Texts)][i] = "spoilt"
		}
	}
	for i := range l[:cap(l)] {
		l[:cap(l)][i] = integer("spoilt", 77)
	}
}

// Arguments are neither changed nor kept, and results are new memory (R4).
func TestMemory(t *testing.T) {
	whole := []api.Attr{ints("a", 1, 2, 3), typeList("b", "i1", "i2"), ints("c", 4), typeList("d", "i3"), ints("e", 5)}
	other := []api.Attr{typeList("b", "i4"), ints("c", 6), typeList("f", "i5"), ints("g", 7)}
	one := ints("bb", 8, 9)
	for name, call := range map[string]func(l, m []api.Attr, a api.Attr) []api.Attr{
		"Get": func(l, m []api.Attr, a api.Attr) []api.Attr {
			x, _ := attrs.Get(l, "a")
			y, _ := attrs.Get(l, "b")
			return []api.Attr{x, y}
		},
		"Drop first": func(l, m []api.Attr, a api.Attr) []api.Attr { x, _ := attrs.Drop(l, "a"); return x },
		"Drop":       func(l, m []api.Attr, a api.Attr) []api.Attr { x, _ := attrs.Drop(l, "b"); return x },
		"Drop last":  func(l, m []api.Attr, a api.Attr) []api.Attr { x, _ := attrs.Drop(l, "d"); return x },
		"Set":        func(l, m []api.Attr, a api.Attr) []api.Attr { x, _ := attrs.Set(l, a); return x },
		"Set at its place": func(l, m []api.Attr, a api.Attr) []api.Attr {
			a.Name = "b"
			x, _ := attrs.Set(l, a)
			return x
		},
		"Set last": func(l, m []api.Attr, a api.Attr) []api.Attr {
			a.Name = "z"
			x, _ := attrs.Set(l, a)
			return x
		},
		"Merge":      func(l, m []api.Attr, a api.Attr) []api.Attr { x, _ := attrs.Merge(l, m); return x },
		"Merge back": func(l, m []api.Attr, a api.Attr) []api.Attr { x, _ := attrs.Merge(m, l); return x },
		"Merge self": func(l, m []api.Attr, a api.Attr) []api.Attr { x, _ := attrs.Merge(l, l); return x },
		"Merge nil":  func(l, m []api.Attr, a api.Attr) []api.Attr { x, _ := attrs.Merge(l, nil); return x },
		"Merge to":   func(l, m []api.Attr, a api.Attr) []api.Attr { x, _ := attrs.Merge(nil, l); return x },
		"Parse":      func(l, m []api.Attr, a api.Attr) []api.Attr { x, _ := attrs.Parse(textOf(l)); return x },
	} {
		l, m, a := deep(whole), deep(other), deep([]api.Attr{one})
		got := call(l[:4], m[:3], a[0])
		if !sameList(l, whole) || !sameList(m, other) || !same(a[0], one) {
			t.Errorf("%s changed its arguments: %v, %v, %v", name, l, m, a)
		}
		again := deep(got)
		spoil(l)
		spoil(m)
		spoil(a)
		if !sameList(got, again) {
			t.Errorf("%s kept its arguments: %v", name, got)
		}
		// No list of a result grows into another one.
		for i := range got {
			_ = append(got[i].Ints, 99)
			_ = append(got[i].Texts, "grown")
		}
		if !sameList(got, again) {
			t.Errorf("%s: the lists of its result share memory: %v", name, got)
		}
		l, m, a = deep(whole), deep(other), deep([]api.Attr{one})
		spoil(call(l[:4], m[:3], a[0]))
		if !sameList(l, whole) || !sameList(m, other) || !same(a[0], one) {
			t.Errorf("the result of %s shares memory with its arguments: %v, %v, %v", name, l, m, a)
		}
	}
	first, _ := attrs.Read("a", "[1, 2]")
	second, _ := attrs.Read("a", "[1, 2]")
	first.Ints[0] = 9
	if !same(second, ints("a", 1, 2)) {
		t.Error(second)
	}
}
