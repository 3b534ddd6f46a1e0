package attrs_test

import (
	"fmt"
	"regexp"
	"slices"
	"strconv"
	"strings"
	"testing"

	"demotic/api"
	"demotic/attrs"
	"demotic/types"
)

func TestP2_3Examples(t *testing.T) {
	l := []api.Attr{integer("a", 5), text("b", "x\"y"), symbol("c", "f"), typed("d", "i32"), ints("e", 1, -2), typeList("f", "i1", "index")}
	const s = `{a = 5, b = "x\"y", c = @f, d = i32, e = [1, -2], f = (i1, index)}`
	if got, e := attrs.Print(l); got != s || e != api.OK {
		t.Error(got, e)
	}
	if got, e := attrs.Parse(s); !sameList(got, l) || e != api.OK {
		t.Error(got, e)
	}
	if got, e := attrs.Read("a", "05"); !same(got, api.Attr{}) || e != api.ErrText {
		t.Error(got, e)
	}
	if got, e := attrs.Read("a", "[]"); !same(got, ints("a")) || e != api.OK {
		t.Error(got, e)
	}
	if got, e := attrs.Read("a", "()"); !same(got, typeList("a")) || e != api.OK {
		t.Error(got, e)
	}
}

func TestP2_3Value(t *testing.T) {
	for _, c := range []struct {
		a    api.Attr
		want string
	}{
		{integer("a", 0), "0"},
		{integer("a", -7), "-7"},
		{integer("a", -1<<63), "-9223372036854775808"},
		{text("a", ""), `""`},
		{text("a", "x\"y\\z\n"), `"x\"y\\z\n"`},
		{text("a", "\x00\t\r\x1f \x7e\x7f\x80\xff"), `"\x00\x09\x0d\x1f ~\x7f\x80\xff"`},
		{text("a", "\u00e9"), `"\xc3\xa9"`},
		{symbol("a", "f_1"), "@f_1"},
		{typed("a", "mem<4x3xi32>"), "mem<4x3xi32>"},
		{ints("a"), "[]"},
		{ints("a", 3), "[3]"},
		{ints("a", 0, -1, 12), "[0, -1, 12]"},
		{typeList("a"), "()"},
		{typeList("a", "i8"), "(i8)"},
		{typeList("a", "arr<2xi8>", "!a.b"), "(arr<2xi8>, !a.b)"},
	} {
		if got, e := attrs.Value(c.a); got != c.want || e != api.OK {
			t.Errorf("Value(%s): %s, %d, want %s", said(c.a), got, e, c.want)
		}
	}
	for _, a := range rightAttrs() {
		if got, e := attrs.Value(a); got != valueOf(a) || e != api.OK {
			t.Errorf("Value(%.80s): %.80s, %d", said(a), got, e)
		}
	}
}

func TestP2_3Bytes(t *testing.T) {
	for b := range 256 {
		a := text("a", string([]byte{byte(b)}))
		s := valueOf(a)
		if got, e := attrs.Value(a); got != s || e != api.OK {
			t.Errorf("byte %d: %s, %d", b, got, e)
		}
		if got, e := attrs.Read("a", s); !same(got, a) || e != api.OK {
			t.Errorf("Read(%s): %.200s, %d", s, said(got), e)
		}
		// Each of the other ways to write the byte is none.
		for _, other := range []string{string([]byte{byte(b)}), `\` + string([]byte{byte(b)}), fmt.Sprintf(`\x%02x`, b), fmt.Sprintf(`\x%02X`, b), fmt.Sprintf(`\x%x`, b), fmt.Sprintf(`\%03o`, b), fmt.Sprintf(`\u%04x`, b)} {
			other = `"` + other + `"`
			got, e := attrs.Read("a", other)
			if want := isValue(other); (e == api.OK) != want || e != api.OK && (e != api.ErrText || !same(got, api.Attr{})) {
				t.Errorf("Read(%q): %.200s, %d, want value: %v", other, said(got), e, want)
			}
		}
	}
}

func TestP2_3Read(t *testing.T) {
	for _, a := range rightAttrs() {
		if got, e := attrs.Read(a.Name, valueOf(a)); !same(got, a) || e != api.OK {
			t.Errorf("Read(%s, %.80s): %.200s, %d", a.Name, valueOf(a), said(got), e)
		}
	}
	// ErrAttr comes before ErrText.
	for _, name := range noNames {
		for _, value := range []string{"5", "i8", "05", "", "\""} {
			if got, e := attrs.Read(name, value); !same(got, api.Attr{}) || e != api.ErrAttr {
				t.Errorf("Read(%q, %s): %.200s, %d", name, value, said(got), e)
			}
		}
	}
}

var noValues = []string{
	"", " ", "5 ", " 5", "05", "00", "-", "-0", "-05", "+5", "--5", "5-", "5.0", "0x5", "1_000", "1e3", "5x", "9223372036854775808", "-9223372036854775809", "99999999999999999999999999", "\uff15",
	`"`, `"x`, `x"`, `"x""`, `"x"y`, `"x" `, ` "x"`, `""x""`, `"""`, `"\"`, `"\`, `"\\\"`, `"\a"`, `"\t"`, `"\r"`, `"\0"`, `"\'"`, `"\N"`, `"\X00"`, `"\x"`, `"\x0"`, `"\x0g"`, `"\xg0"`, `"\x0A"`, `"\x0a"`, `"\x1F"`, `"\xFF"`, `"\x41"`, `"\x20"`, `"\x7e"`, `"\x22"`, `"\x5c"`, `"\u00e9"`, "\"\n\"", "\"\t\"", "\"\x00\"", "\"\x7f\"", "\"\xff\"", "\"\u00e9\"", `'x'`,
	`"\x 1"`, `"\x+1"`, `"\x-1"`, `"\x1"`, `"\x_1"`,
	`"` + strings.Repeat("x", 1001) + `"`, `"` + strings.Repeat(`\n`, 1001) + `"`, `"` + strings.Repeat(`\x00`, 1001) + `"`,
	"@", "@ f", "@f ", " @f", "@@f", "@F", "@1", "@_f", "@f.g", "@f-g", "@\"f\"", "@f@", "f@", "@\u00e9", "@" + longestName + "x",
	"i0", "i65", "i01", "i8 ", " i8", "f", "x", "mem<100x100xi8>", "mem<4xmem<i8>>", "mem<4 xi8>", "!calc", "i8, i8",
	"[", "]", "[ ]", " []", "[] ", "[][]", "[1", "1]", "[1]]", "[[1]]", "[1,2]", "[1 , 2]", "[1,  2]", "[ 1]", "[1 ]", "[1, ]", "[, 1]", "[,]", "[, ]", "[1, , 2]", "[1; 2]", "[1 2]", "[01]", "[+1]", "[-0]", "[1, 02]", "[i8]", "[@f]", "[\"x\"]", "[9223372036854775808]", "[1)", "(1]",
	"[" + strings.Repeat("1, ", 100) + "1]", "[" + strings.Repeat(", ", 1<<16) + "]",
	"(", ")", "( )", " ()", "() ", "()()", "(i8", "i8)", "(i8))", "((i8))", "(i8,i8)", "(i8 , i8)", "(i8,  i8)", "( i8)", "(i8 )", "(i8, )", "(, i8)", "(,)", "(i0)", "(1)", "(@f)", "(i8, x)", "(i8]", "[i8)",
	"(" + strings.Repeat("i8, ", 100) + "i8)",
	"{}", "{a = 5}", "a = 5", "5, 6", "5}", "5,", "true", "null", "#f", "\x00", "\xff",
}

func TestP2_3NoValues(t *testing.T) {
	for _, s := range noValues {
		if got, e := attrs.Read("a", s); !same(got, api.Attr{}) || e != api.ErrText {
			t.Errorf("Read(%.80q): %.200s, %d", s, said(got), e)
		}
		if got, e := attrs.Parse("{a = " + s + "}"); len(got) > 0 || e != api.ErrText {
			t.Errorf("Parse of a list with %.80q: %.200s, %d", s, said(got), e)
		}
	}
}

func TestP2_3Print(t *testing.T) {
	for _, l := range lists() {
		want := textOf(l)
		if got, e := attrs.Print(l); got != want || e != api.OK {
			t.Errorf("Print: %.80q, %d, want %.80q", got, e, want)
		}
		if got, e := attrs.Parse(want); !sameList(got, l) || e != api.OK {
			t.Errorf("Parse(%.80q): %.200s, %d", want, said(got), e)
		}
	}
}

func TestP2_3Sizes(t *testing.T) {
	for n, want := range map[int]api.Errno{api.MaxText - 1: api.OK, api.MaxText: api.OK, api.MaxText + 1: api.ErrLarge, api.MaxText + 1000: api.ErrLarge} {
		l := sized(n)
		if len(textOf(l)) != n || len(l) > api.MaxList {
			t.Fatalf("a list of %d attributes, %d bytes", len(l), len(textOf(l)))
		}
		if got, e := attrs.Print(l); e != want || e == api.OK && got != textOf(l) || e != api.OK && got != "" {
			t.Errorf("Print of %d bytes: %d bytes, %d", n, len(got), e)
		}
	}
}

var noLists = []string{
	" ", "{", "}", "{}", "{ }", "{{}}", "a = 5", "{a = 5", "a = 5}", "{a = 5}}", "{{a = 5}", "{{a = 5}}", " {a = 5}", "{a = 5} ", "{ a = 5}", "{a = 5 }", "{a = 5}\n", "{a = 5}{b = 6}", "[a = 5]", "(a = 5)",
	"{a=5}", "{a= 5}", "{a =5}", "{a  = 5}", "{a =  5}", "{a 5}", "{a}", "{a = }", "{ = 5}", "{= 5}", "{a == 5}", "{a = = 5}", "{a: 5}", "{a\t= 5}",
	"{a = 5,}", "{a = 5, }", "{, a = 5}", "{,a = 5}", "{a = 5,,}", "{a = 5,, b = 6}", "{a = 5, , b = 6}", "{a = 5,b = 6}", "{a = 5 , b = 6}", "{a = 5,  b = 6}", "{a = 5; b = 6}", "{a = 5 b = 6}", "{,}", "{,,}", "{,,,}", "{, }",
	"{a = 5, a = 5}", "{a = 5, a = 6}", "{b = 5, a = 6}", "{a_ = 5, a0 = 6}", "{aa = 5, a_ = 6}", "{a = 1, c = 2, b = 3}", "{a = 1, b = 2, a = 1}",
	"{A = 5}", "{1 = 5}", "{_a = 5}", "{a b = 5}", "{\"a\" = 5}", "{@a = 5}", "{a.b = 5}", "{\u00e9 = 5}", "{a\xff = 5}", "{" + longestName + "x = 5}",
	`{a = "x}`, `{a = x"}`, `{a = "}`, `{a = "x"y"}`, `{a = "x\"}`, `{a = "x", b = "}`, `{a = "x" b = "y"}`, `{a = "x"b = 5}`, `{a = "\x41"}`,
	"{a = [1, 2}", "{a = 1, 2]}", "{a = [1, 2], }", "{a = [1, 2], 3]}", "{a = (i8, i8}", "{a = i8, i8)}", "{a = [1, 2)}", "{a = [1,2]}", "{a = [\"]\"]}",
	"{a = {b = 5}}", "{a = {}}", "{a = 5, b}", "{a, b = 5}", "{a = 5, b = 05}", "{a = 05, b = 5}", "\x00", "\xff", "{\xff}", "5", "[]", "()",
	"{" + strings.Repeat(",", 1<<16) + "}", "{a = " + strings.Repeat("[", 1<<16) + "}", strings.Repeat("{", 1<<16), "{a = 5" + strings.Repeat(", a = 5", 1<<16) + "}",
}

func TestP2_3NoLists(t *testing.T) {
	for _, s := range append(noLists, textOf(numbered(api.MaxList+1))) {
		if got, e := attrs.Parse(s); len(got) > 0 || e != api.ErrText {
			t.Errorf("Parse(%.80q): %.200s, %d", s, said(got), e)
		}
	}
	// One wrong attribute among the right ones, first, last or between them.
	for _, a := range wrongAttrs() {
		if s := valueOf(a); !isValue(s) {
			for _, l := range []string{"{a = " + s + ", b = 5}", "{a = 5, b = " + s + "}", "{a = 5, b = " + s + ", c = 5}"} {
				if got, e := attrs.Parse(l); len(got) > 0 || e != api.ErrText {
					t.Errorf("Parse(%.80q): %.200s, %d", l, said(got), e)
				}
			}
		}
	}
}

var (
	number   = regexp.MustCompile(`^(0|-?[1-9][0-9]*)$`)
	textUnit = regexp.MustCompile(`^([ !#-\[\]-~]|\\["\\n]|\\x(0[0-9b-f]|1[0-9a-f]|7f|[89a-f][0-9a-f]))`)
	name     = regexp.MustCompile(`^[a-z][a-z0-9_]{0,59}$`)
	listItem = regexp.MustCompile(`^([a-z][a-z0-9_]*) = ("(?:[^"\\]|\\.)*"|\[[^\]]*\]|\([^)]*\)|[^",\[\](){}]+)(, |\}$)`)
)

func isNumber(s string) bool {
	_, err := strconv.ParseInt(s, 10, 64)
	return number.MatchString(s) && err == nil
}

// isValue is a second reading of which strings are those of values.
func isValue(s string) bool {
	switch {
	case s == "":
		return false
	case s[0] == '"':
		units := 0
		for s = s[1:]; textUnit.MatchString(s); units++ {
			s = s[len(textUnit.FindString(s)):]
		}
		return s == `"` && units <= 1000
	case s[0] == '@':
		return name.MatchString(s[1:])
	case s[0] == '[':
		inner, ok := strings.CutSuffix(s[1:], "]")
		parts := strings.Split(inner, ", ")
		return ok && (inner == "" || len(parts) <= 100 && !slices.ContainsFunc(parts, func(p string) bool { return !isNumber(p) }))
	case s[0] == '(':
		_, e := types.Split(s)
		return e == api.OK
	}
	return isNumber(s) || types.Check(s) == api.OK
}

// isList is a second reading of which strings are those of lists.
func isList(s string) bool {
	if s == "" {
		return true
	}
	left, ok := strings.CutPrefix(s, "{")
	last, count := "", 0
	for ok {
		parts := listItem.FindStringSubmatch(left)
		if parts == nil || !name.MatchString(parts[1]) || !isValue(parts[2]) || parts[1] <= last {
			return false
		}
		last, left = parts[1], left[len(parts[0]):]
		count++
		if left == "" {
			return parts[3] == "}" && count <= 100
		}
	}
	return false
}

// edited gives the strings that are one edit away from s.
func edited(s string) []string {
	alphabet := []string{"", "0", "1", "a", "b", "n", "x", "f", "i", "8", "A", "_", "-", "+", "\"", "\\", "@", "[", "]", "(", ")", "{", "}", ",", " ", ", ", "=", "\n", "\x7f", "\xff", "\u00e9"}
	var l []string
	for at := 0; at <= len(s); at++ {
		for _, c := range alphabet {
			l = append(l, s[:at]+c+s[at:])
			if at < len(s) {
				l = append(l, s[:at]+c+s[at+1:])
			}
		}
	}
	return l
}

// Each string that is one or two edits away from the string of a value is one, or not, as the second reading says.
func TestP2_4NeighboursOfValues(t *testing.T) {
	for _, s := range []string{"0", "5", "-12", "100", `""`, `"x"`, `"x\"y"`, `"\x00"`, `"\x1f\\\n"`, "@f", "@f_1", "i8", "i32", "index", "mem<2xi8>", "!a.b", "[]", "[1]", "[1, -2]", "()", "(i8)", "(i1, index)"} {
		for _, x := range edited(s) {
			checkValue(t, x)
			if len(s) <= 4 {
				for _, y := range edited(x) {
					checkValue(t, y)
				}
			}
		}
	}
}

func checkValue(t *testing.T, s string) {
	a, e := attrs.Read("a", s)
	switch {
	case (e == api.OK) != isValue(s), e != api.OK && (e != api.ErrText || !same(a, api.Attr{})):
		t.Errorf("Read(%q): %v, %d, want value: %v", s, a, e, isValue(s))
	case e == api.OK && (valueOf(a) != s || attrs.Check([]api.Attr{a}) != api.OK):
		t.Errorf("Read(%q): %v", s, a)
	}
}

func TestP2_4NeighboursOfLists(t *testing.T) {
	for _, s := range []string{"", "{}", "{a = 5}", "{a = 5, b = 6}", `{a = "x\"y", b = "}"}`, "{a = [1, -2], b = (i1, index)}", "{a = @f, ab = i8, b = []}", `{a = "", b = ()}`} {
		for _, x := range edited(s) {
			checkList(t, x)
			if len(s) <= 7 {
				for _, y := range edited(x) {
					checkList(t, y)
				}
			}
		}
	}
}

func checkList(t *testing.T, s string) {
	l, e := attrs.Parse(s)
	switch {
	case (e == api.OK) != isList(s), e != api.OK && (e != api.ErrText || len(l) > 0):
		t.Errorf("Parse(%q): %v, %d, want list: %v", s, l, e, isList(s))
	case e == api.OK && (textOf(l) != s || attrs.Check(l) != api.OK):
		t.Errorf("Parse(%q): %v", s, l)
	}
}

func TestP2_4ThereAndBack(t *testing.T) {
	for _, a := range rightAttrs() {
		s, e := attrs.Value(a)
		if got, f := attrs.Read(a.Name, s); e != api.OK || f != api.OK || !same(got, a) {
			t.Errorf("Read of the Value of %.80s: %.200s, %d, %d", said(a), said(got), e, f)
		}
	}
	for _, l := range lists() {
		s, e := attrs.Print(l)
		if got, f := attrs.Parse(s); e != api.OK || f != api.OK || !sameList(got, l) {
			t.Errorf("Parse of Print of %.80s: %.200s, %d, %d", textOf(l), said(got), e, f)
		}
	}
}

// FuzzCalls holds every call against P1: it ends, does not panic, and says the same twice (R7).
func FuzzCalls(f *testing.F) {
	for _, s := range slices.Concat(noValues, noLists) {
		if len(s) < 1000 {
			f.Add("a", s, 0, int64(5), byte(3))
		}
	}
	for i, a := range rightAttrs() {
		f.Add(a.Name, valueOf(a), int(a.Kind), a.Int, byte(i))
	}
	for _, l := range lists() {
		f.Add("b", textOf(l), 4, int64(-1), byte(7))
	}
	calls := func(name, s string, k int, n int64, fields byte) string {
		a := api.Attr{Name: name, Kind: api.Kind(k)}
		if fields&1 != 0 {
			a.Int = n
		}
		if fields&2 != 0 {
			a.Text = s
		}
		if fields&4 != 0 {
			a.Ints = []int64{n, -n}
		}
		if fields&8 != 0 {
			a.Texts = []string{s}
		}
		b, _ := attrs.Read(name, s)
		l, _ := attrs.Parse(s)
		m := []api.Attr{a, b}
		return said(attrs.Read(name, s)) + said(attrs.Parse(s)) + said(attrs.Check(l)) + said(attrs.Check(m)) +
			said(attrs.Get(l, name)) + said(attrs.Get(m, s)) + said(attrs.Set(l, a)) + said(attrs.Set(m, b)) +
			said(attrs.Drop(l, name)) + said(attrs.Drop(m, name)) + said(attrs.Merge(l, m)) + said(attrs.Merge([]api.Attr{b}, l)) +
			said(attrs.Equal(a, b)) + said(attrs.Cmp(a, b)) + said(attrs.Value(a)) + said(attrs.Value(b)) + said(attrs.Print(l)) + said(attrs.Print(m))
	}
	f.Fuzz(func(t *testing.T, name, s string, k int, n int64, fields byte) {
		if calls(name, s, k, n, fields) != calls(name, s, k, n, fields) {
			t.Errorf("%q, %q: two answers", name, s)
		}
		checkValue(t, s)
		checkList(t, s)
	})
}
