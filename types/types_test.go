package types_test

import (
	"fmt"
	"math"
	"math/big"
	"regexp"
	"slices"
	"strconv"
	"strings"
	"testing"

	"demotic/api"
	"demotic/types"
)

// Right types and strings that are none, which the tests of several promises use.
var (
	numberTypes  = []string{"i1", "i2", "i7", "i8", "i9", "i10", "i16", "i31", "i32", "i59", "i60", "i63", "i64", "index"}
	shapedTypes  = []string{"mem<i8>", "mem<index>", "mem<0xi1>", "mem<1000xi64>", "mem<4x3xi32>", "mem<16x16x16xindex>", "mem<1000x1000x0xi1>", "arr<i8>", "arr<0xindex>", "arr<64x64xi7>", "arr<5x0xi32>", "arr<1000x4x1xi8>"}
	foreignTypes = []string{"!calc.num", "!a.b", "!a_1.b2_", "!index.i32", "!mem.x", longestForeign}
	noTypes      = []string{
		"", "i", "i0", "i65", "i01", "i00", "i100", "i-1", "i+1", "i 8", " i8", "i8 ", "i8x", "i8.", "I8", "j8", "8", "i9999999999999999999999", "ii8", "i1_0", "i0x8",
		"ind", "inde", "indexx", "index1", "index ", "Index", "INDEX",
		"mem", "mem<", "mem<>", "mem<i8", "mem<i8>>", "mem<<i8>", "mem i8>", "memi8", "mem<i8>x", "mem<i8> ", "mem< i8>", "mem<i8 >", "Mem<i8>", "memory<i8>", "me<i8>",
		"mem<4>", "mem<4x>", "mem<x>", "mem<xi8>", "mem<4xxi8>", "mem<4i8>", "mem<4,i8>", "mem<4 xi8>", "mem<4x i8>", "mem<4x3>", "mem<4X3xi8>", "mem<?xi8>", "mem<-1xi8>", "mem<+1xi8>", "mem<01xi8>", "mem<00xi8>", "mem<0x01xi8>",
		"mem<1001xi8>", "mem<0x1001xi8>", "mem<99999999999999999999xi8>", "mem<100x100xi8>", "mem<17x241xi8>", "mem<1000x5xi8>", "mem<1000x1000x1000xi8>", "mem<1x2x3x4xi8>", "mem<0x0x0x0xi8>",
		"mem<i0>", "mem<i65>", "mem<4xi01>", "mem<inde>", "mem<!a.b>", "mem<4x!a.b>", "mem<mem<i8>>", "mem<4xmem<i8>>", "mem<arr<i8>>", "mem<4xf32>",
		"arr", "arr<>", "arr<i8 >", "arr<xi8>", "arr<4x>", "arr<i8>>", "arr<1001xi8>", "arr<65x64xi8>", "arr<1x1x1x1xi8>", "arr<arr<i8>>", "array<i8>",
		"!", "!calc", "!calc.", "!.num", "!.", "!..", "!a..b", "!!a.b", "!calc.n.m", "a.b", "calc.num", "!a.b ", "! a.b", "!a .b", "!a. b", "!A.b", "!a.B", "!1a.b", "!a.1b", "!_a.b", "!a._b", "!a-b.c", "!a.b>", "!a/b",
		longestForeign + "x", "!" + strings.Repeat("a", 1000) + ".b",
		"i\uff18", "\u0131ndex", "!\u00e9.b", "!a.\u00e9", "i8\x00", "\x00", "i\xff", "!a\xff.b", "mem<\ufffdxi8>", "mem<i8\u203a", "(i8)", "i8, i8",
	}
)

// longestForeign has just MaxName bytes.
var longestForeign = "!" + strings.Repeat("a", 28) + "." + strings.Repeat("b", 30)

// said is what values look like, with blanks between them.
func said(l ...any) string {
	return strings.TrimSuffix(fmt.Sprintln(l...), "\n")
}

func TestP1_1KindsAndBits(t *testing.T) {
	if len(longestForeign) != api.MaxName {
		t.Fatalf("longestForeign has %d bytes", len(longestForeign))
	}
	for n := 1; n <= 64; n++ {
		s := "i" + strconv.Itoa(n)
		if e := types.Check(s); e != api.OK {
			t.Errorf("Check(%s): %d", s, e)
		}
		if k, e := types.KindOf(s); k != types.Integer || e != api.OK {
			t.Errorf("KindOf(%s): %d, %d", s, k, e)
		}
		if b, e := types.Bits(s); b != n || e != api.OK {
			t.Errorf("Bits(%s): %d, %d", s, b, e)
		}
	}
	if b, e := types.Bits("index"); b != 64 || e != api.OK {
		t.Errorf("Bits(index): %d, %d", b, e)
	}
	for _, s := range slices.Concat(numberTypes, shapedTypes, foreignTypes) {
		want := types.Integer
		switch {
		case s == "index":
			want = types.Index
		case strings.HasPrefix(s, "mem<"):
			want = types.Memory
		case strings.HasPrefix(s, "arr<"):
			want = types.Array
		case s[0] == '!':
			want = types.Foreign
		}
		if e := types.Check(s); e != api.OK {
			t.Errorf("Check(%s): %d", s, e)
		}
		if k, e := types.KindOf(s); k != want || e != api.OK {
			t.Errorf("KindOf(%s): %d, %d, want %d", s, k, e, want)
		}
	}
	for _, s := range slices.Concat(shapedTypes, foreignTypes) {
		if b, e := types.Bits(s); b != 0 || e != api.ErrArg {
			t.Errorf("Bits(%s): %d, %d", s, b, e)
		}
	}
}

func TestP1_1KindNumbers(t *testing.T) {
	got := said(int(types.Integer), int(types.Index), int(types.Memory), int(types.Array), int(types.Foreign))
	if got != "0 1 2 3 4" {
		t.Error(got)
	}
}

// ErrType comes before all other errors, and next to it stand zero values.
func TestNoTypes(t *testing.T) {
	for _, s := range noTypes {
		for name, c := range map[string][2]string{
			"Check":    {said(types.Check(s)), "10"},
			"KindOf":   {said(types.KindOf(s)), "0 10"},
			"Bits":     {said(types.Bits(s)), "0 10"},
			"Shape":    {said(types.Shape(s)), "[]  10"},
			"Cells":    {said(types.Cells(s)), "0 10"},
			"Range":    {said(types.Range(s)), "0 0 10"},
			"Wrap":     {said(types.Wrap(s, 5)), "0 10"},
			"Unsigned": {said(types.Unsigned(s, 5)), "0 10"},
			"Rank":     {said(types.Rank(s)), "0 10"},
			"Element":  {said(types.Element(s)), " 10"},
			"Turned":   {said(types.Turned(s)), " 10"},
			"Make":     {said(types.Make(types.Memory, []int{2}, s)), " 10"},
			"Join":     {said(types.Join([]string{s})), " 10"},
		} {
			if c[0] != c[1] {
				t.Errorf("%s of %q: %s, want %s", name, s, c[0], c[1])
			}
		}
	}
}

var grammar = regexp.MustCompile(`^(?:i([0-9]+)|index|(?:mem|arr)<((?:[0-9]+x)*)(?:i([0-9]+)|index)>|![a-z][a-z0-9_]*\.[a-z][a-z0-9_]*)$`)

// isType is a second reading of the chapter's definition.
func isType(s string) bool {
	parts := grammar.FindStringSubmatch(s)
	if parts == nil || s[0] == '!' && len(s) > api.MaxName {
		return false
	}
	isNumber := func(digits string, low, high int) bool {
		n, err := strconv.Atoi(digits)
		return err == nil && strconv.Itoa(n) == digits && n >= low && n <= high
	}
	for _, bits := range []string{parts[1], parts[3]} {
		if bits != "" && !isNumber(bits, 1, 64) {
			return false
		}
	}
	cells, rank := 1, 0
	for _, digits := range strings.Split(parts[2], "x") {
		if digits == "" {
			continue
		}
		if !isNumber(digits, 0, 1000) {
			return false
		}
		n, _ := strconv.Atoi(digits)
		cells *= n
		rank++
	}
	return rank <= 3 && cells <= api.MaxCells
}

// Each string that is one or two edits away from a type is one, or not, as the second reading says.
func TestP1_1Neighbours(t *testing.T) {
	alphabet := []string{"", "0", "1", "6", "9", "i", "x", "a", "m", "<", ">", "!", ".", "_", " ", "A", "-", ",", "\u00e9", "\xff"}
	edits := func(s string) []string {
		var l []string
		for at := 0; at <= len(s); at++ {
			for _, c := range alphabet {
				l = append(l, s[:at]+c+s[at:])
				if at < len(s) {
					l = append(l, s[:at]+c+s[at+1:])
				}
			}
		}
		return l
	}
	once := map[string]bool{}
	for _, s := range []string{"i8", "i64", "index", "mem<4x3xi32>", "arr<0xindex>", "mem<i8>", "!a.b", "arr<1000x4xi1>", "mem<2x2x2xi8>", longestForeign} {
		for _, x := range edits(s) {
			once[x] = true
		}
	}
	check := func(s string) {
		if got := types.Check(s); (got == api.OK) != isType(s) || got != api.OK && got != api.ErrType {
			t.Errorf("Check(%q): %d, want type: %v", s, got, isType(s))
		}
	}
	for s := range once {
		check(s)
		if len(s) <= 8 {
			for _, x := range edits(s) {
				check(x)
			}
		}
	}
}

func TestP1_2Shapes(t *testing.T) {
	for _, c := range []struct {
		s       string
		extents []int
		element string
		cells   int
	}{
		{"mem<i8>", nil, "i8", 1},
		{"mem<0xi1>", []int{0}, "i1", 0},
		{"mem<1000xi64>", []int{1000}, "i64", 1000},
		{"mem<4x3xi32>", []int{4, 3}, "i32", 12},
		{"mem<16x16x16xindex>", []int{16, 16, 16}, "index", 4096},
		{"mem<1000x1000x0xi1>", []int{1000, 1000, 0}, "i1", 0},
		{"arr<index>", nil, "index", 1},
		{"arr<7xindex>", []int{7}, "index", 7},
		{"arr<5x0xi32>", []int{5, 0}, "i32", 0},
		{"arr<1x2x3xi63>", []int{1, 2, 3}, "i63", 6},
	} {
		kind, turned := types.Memory, "arr"+c.s[3:]
		if c.s[0] == 'a' {
			kind, turned = types.Array, "mem"+c.s[3:]
		}
		for i, x := range [][2]string{
			{said(types.Shape(c.s)), said(c.extents, c.element, 0)},
			{said(types.Cells(c.s)), said(c.cells, 0)},
			{said(types.Rank(c.s)), said(len(c.extents), 0)},
			{said(types.Element(c.s)), said(c.element, 0)},
			{said(types.Turned(c.s)), said(turned, 0)},
			{said(types.Make(kind, c.extents, c.element)), said(c.s, 0)},
		} {
			if x[0] != x[1] {
				t.Errorf("%s, call %d: %s, want %s", c.s, i, x[0], x[1])
			}
		}
	}
}

func TestP1_2NoShapes(t *testing.T) {
	for _, s := range slices.Concat(numberTypes, foreignTypes) {
		for i, c := range [][2]string{
			{said(types.Shape(s)), "[]  1"},
			{said(types.Cells(s)), "0 1"},
			{said(types.Rank(s)), "0 1"},
			{said(types.Element(s)), " 1"},
			{said(types.Turned(s)), " 1"},
		} {
			if c[0] != c[1] {
				t.Errorf("%s, call %d: %s, want %s", s, i, c[0], c[1])
			}
		}
	}
}

func TestP1_2MakeErrors(t *testing.T) {
	const m, a = types.Memory, types.Array
	for i, c := range []struct {
		k       types.Kind
		extents []int
		element string
		want    api.Errno
	}{
		{types.Integer, nil, "i8", api.ErrArg},
		{types.Index, nil, "i8", api.ErrArg},
		{types.Foreign, nil, "i8", api.ErrArg},
		{-1, nil, "i8", api.ErrArg},
		{5, nil, "i8", api.ErrArg},
		{math.MaxInt, nil, "i8", api.ErrArg},
		{math.MinInt, nil, "i8", api.ErrArg},
		{m, []int{1, 1, 1, 1}, "i8", api.ErrArg},
		{a, make([]int, 100), "i8", api.ErrArg},
		{m, []int{-1}, "i8", api.ErrArg},
		{m, []int{1001}, "i8", api.ErrArg},
		{a, []int{0, 1001}, "i8", api.ErrArg},
		{a, []int{1, 2, -1}, "i8", api.ErrArg},
		{m, []int{math.MaxInt, math.MaxInt, 4}, "i8", api.ErrArg},
		{m, []int{math.MinInt}, "i8", api.ErrArg},
		// ErrArg before ErrType before ErrLarge.
		{types.Integer, nil, "x", api.ErrArg},
		{m, []int{1001}, "x", api.ErrArg},
		{m, []int{1000, 1000, 1001}, "i8", api.ErrArg},
		{m, []int{1000, 1000}, "x", api.ErrType},
		{m, []int{1000, 1000}, "!a.b", api.ErrType},
		{m, nil, "!a.b", api.ErrType},
		{a, nil, "mem<i8>", api.ErrType},
		{a, []int{2}, "arr<i8>", api.ErrType},
		{m, []int{1000, 5}, "i8", api.ErrLarge},
		{m, []int{17, 241}, "i8", api.ErrLarge},
		{a, []int{1000, 1000, 1000}, "index", api.ErrLarge},
		{a, []int{1, 1000, 1000}, "index", api.ErrLarge},
		// The exact product decides, not one on the way to it.
		{a, []int{1000, 1000, 0}, "index", api.OK},
		{m, []int{64, 64, 1}, "i1", api.OK},
	} {
		got, e := types.Make(c.k, c.extents, c.element)
		if e != c.want || e != api.OK && got != "" {
			t.Errorf("case %d: %q, %d, want %d", i, got, e, c.want)
		}
	}
}

// The results are new memory, and the arguments stay as they are (R4).
func TestP1_2Memory(t *testing.T) {
	first, _, _ := types.Shape("mem<4x3xi32>")
	second, _, _ := types.Shape("mem<4x3xi32>")
	first[0] = 9
	if !slices.Equal(second, []int{4, 3}) {
		t.Error(second)
	}
	all := []int{4, 3, -1, 2000}
	if s, e := types.Make(types.Array, all[:2], "i8"); s != "arr<4x3xi8>" || e != api.OK {
		t.Error(s, e)
	}
	if !slices.Equal(all, []int{4, 3, -1, 2000}) {
		t.Error(all)
	}
	list := []string{"i1", "i2", "no type"}
	if s, e := types.Join(list[:2]); s != "(i1, i2)" || e != api.OK || list[2] != "no type" {
		t.Error(s, e, list)
	}
	one, _ := types.Split("(i1, i2)")
	two, _ := types.Split("(i1, i2)")
	one[0] = "i9"
	if !slices.Equal(two, []string{"i1", "i2"}) {
		t.Error(two)
	}
}

// numbers are those at the ends of the ranges, and some between.
func numbers() []int64 {
	l := []int64{0, 1, -1, 5, 200, -56, 1000003, math.MaxInt64, math.MinInt64}
	for bits := range 64 {
		p := int64(1) << bits
		l = append(l, p-1, p, p+1, -p-1, -p, -p+1, 3*p, 5*p+1, -7*p-2)
	}
	return l
}

func TestP1_3Numbers(t *testing.T) {
	one := big.NewInt(1)
	check := func(s string, bits int) {
		whole := new(big.Int).Lsh(one, uint(bits))
		half := new(big.Int).Rsh(whole, 1)
		low, high := new(big.Int).Neg(half), new(big.Int).Sub(half, one)
		if got, want := said(types.Range(s)), said(low, high, 0); got != want {
			t.Errorf("Range(%s): %s, want %s", s, got, want)
		}
		for _, n := range numbers() {
			unsigned := new(big.Int).Mod(big.NewInt(n), whole)
			wrapped := new(big.Int).Set(unsigned)
			if wrapped.Cmp(high) > 0 {
				wrapped.Sub(wrapped, whole)
			}
			if got, want := said(types.Unsigned(s, n)), said(unsigned, 0); got != want {
				t.Errorf("Unsigned(%s, %d): %s, want %s", s, n, got, want)
			}
			if got, want := said(types.Wrap(s, n)), said(wrapped, 0); got != want {
				t.Errorf("Wrap(%s, %d): %s, want %s", s, n, got, want)
			}
		}
	}
	for bits := 1; bits <= 64; bits++ {
		check("i"+strconv.Itoa(bits), bits)
	}
	check("index", 64)
}

func TestP1_3NoNumbers(t *testing.T) {
	for _, s := range slices.Concat(shapedTypes, foreignTypes) {
		for i, c := range [][2]string{
			{said(types.Range(s)), "0 0 1"},
			{said(types.Wrap(s, 7)), "0 1"},
			{said(types.Unsigned(s, 7)), "0 1"},
		} {
			if c[0] != c[1] {
				t.Errorf("%s, call %d: %s, want %s", s, i, c[0], c[1])
			}
		}
	}
}

func TestP1_4Lists(t *testing.T) {
	for _, l := range [][]string{
		nil, {"i1"}, {"i1", "index"}, {"mem<4x3xi8>", "!a.b", "arr<i8>"}, {"i1", "i1"},
		slices.Concat(numberTypes, shapedTypes, foreignTypes),
		slices.Repeat([]string{"mem<2xi8>"}, api.MaxList),
	} {
		list := "(" + strings.Join(l, ", ") + ")"
		if got, e := types.Split(list); e != api.OK || !slices.Equal(got, l) {
			t.Errorf("Split(%s): %q, %d", list, got, e)
		}
		if got, e := types.Join(l); e != api.OK || got != list {
			t.Errorf("Join(%q): %s, %d", l, got, e)
		}
	}
}

func TestP1_4NoLists(t *testing.T) {
	tooMany := slices.Repeat([]string{"i8"}, api.MaxList+1)
	for _, s := range []string{
		"", "(", ")", "i1", "(i1", "i1)", "((i1)", "(i1))", "((i1))", "[i1]", "( )", " ()", "() ", "()()", "(i1 )", "( i1)",
		"(i1,i2)", "(i1 , i2)", "(i1,  i2)", "(i1, )", "(, i1)", "(, )", "(,)", "(i1, i2, )", "(i1, , i2)", "(i1; i2)", "(i1,\ti2)",
		"(i0)", "(i1, x)", "(x, i1)", "(i1, ())", "(mem<4, 3xi8>)", "(i1\x00)", "(\xff)",
		"(" + strings.Join(tooMany, ", ") + ")",
		"(" + strings.Repeat(", ", 1<<16) + ")",
	} {
		if got, e := types.Split(s); e != api.ErrType || len(got) > 0 {
			t.Errorf("Split(%.40q): %q, %d", s, got, e)
		}
	}
	if got, e := types.Join(tooMany); e != api.ErrLarge || got != "" {
		t.Errorf("Join of too many: %q, %d", got, e)
	}
	// ErrType comes before ErrLarge.
	for _, at := range []int{0, api.MaxList} {
		l := slices.Clone(tooMany)
		l[at] = "x"
		if got, e := types.Join(l); e != api.ErrType || got != "" {
			t.Errorf("Join of too many and no type: %q, %d", got, e)
		}
	}
	for _, l := range [][]string{{""}, {"i1", ""}, {"i1, i2"}, {"()"}, {"i1", "x", "i2"}} {
		if got, e := types.Join(l); e != api.ErrType || got != "" {
			t.Errorf("Join(%q): %q, %d", l, got, e)
		}
	}
}

func TestP1_5ThereAndBack(t *testing.T) {
	for _, s := range shapedTypes {
		kind, _ := types.KindOf(s)
		extents, element, _ := types.Shape(s)
		if got, e := types.Make(kind, extents, element); got != s || e != api.OK {
			t.Errorf("Make of %s: %s, %d", s, got, e)
		}
		turned, e := types.Turned(s)
		if turned == s || e != api.OK {
			t.Errorf("Turned(%s): %s, %d", s, turned, e)
		}
		if got, e := types.Turned(turned); got != s || e != api.OK {
			t.Errorf("Turned twice of %s: %s, %d", s, got, e)
		}
	}
	all := slices.Concat(numberTypes, shapedTypes, foreignTypes)
	for n := range all {
		list, _ := types.Join(all[:n])
		if got, e := types.Split(list); !slices.Equal(got, all[:n]) || e != api.OK {
			t.Errorf("Split(%s): %q, %d", list, got, e)
		}
	}
}

func TestP1_6Congruence(t *testing.T) {
	for _, s := range numberTypes {
		bits, _ := types.Bits(s)
		low, high, _ := types.Range(s)
		for _, n := range numbers() {
			got, e := types.Wrap(s, n)
			if e != api.OK || got < low || got > high {
				t.Errorf("Wrap(%s, %d): %d, %d", s, n, got, e)
			}
			if low <= n && n <= high && got != n {
				t.Errorf("Wrap(%s, %d) in the range: %d", s, n, got)
			}
			if bits == 64 {
				continue
			}
			for _, k := range []int64{1, -1, 2, -3} {
				if other, _ := types.Wrap(s, n+k<<bits); other != got {
					t.Errorf("Wrap(%s) of %d and %d: %d, %d", s, n, n+k<<bits, got, other)
				}
			}
		}
	}
}

// FuzzCalls holds every call against P1: it ends, does not panic, and says the same twice (R7).
func FuzzCalls(f *testing.F) {
	for _, s := range slices.Concat(numberTypes, shapedTypes, foreignTypes, noTypes, []string{"()", "(i1, i2)", "(i1,i2)"}) {
		f.Add(s, int64(-56), 2, 4, 3)
	}
	calls := func(s string, n int64, k, x, y int) string {
		return said(types.Check(s)) + said(types.KindOf(s)) + said(types.Bits(s)) + said(types.Shape(s)) + said(types.Cells(s)) +
			said(types.Make(types.Kind(k), []int{x, y}, s)) + said(types.Range(s)) + said(types.Wrap(s, n)) + said(types.Unsigned(s, n)) +
			said(types.Rank(s)) + said(types.Element(s)) + said(types.Turned(s)) + said(types.Split(s)) + said(types.Join([]string{s, s}))
	}
	f.Fuzz(func(t *testing.T, s string, n int64, k, x, y int) {
		if calls(s, n, k, x, y) != calls(s, n, k, x, y) {
			t.Errorf("%q: two answers", s)
		}
		if got := types.Check(s); (got == api.OK) != isType(s) {
			t.Errorf("Check(%q): %d", s, got)
		}
	})
}
