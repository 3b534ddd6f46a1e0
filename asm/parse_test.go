package asm_test

import (
	"fmt"
	"slices"
	"strings"
	"testing"

	"demotic/api"
	"demotic/asm"
	"demotic/ir"
)

// equal tells whether two modules of the right form are equal data.
func equal(m, n api.Module) bool {
	same, e := ir.Equal(m, n)
	return same && e == api.OK
}

// hold has all calls that read say the same of a string as a second reading.
func hold(t *testing.T, s string, want verdict) {
	t.Helper()
	m, e := asm.Parse(s)
	if e != want.e || e == api.OK && !equal(m, want.m) || e != api.OK && len(m.Ops) > 0 {
		t.Errorf("Parse(%q): %.300s %d, want %.300s %d", s, said(m), e, said(want.m), want.e)
	}
	line, e := asm.Where(s)
	fits := line == want.line
	if want.e == api.ErrText && want.line == 0 {
		fits = 1 <= line && line <= len(slices.Collect(strings.Lines(s)))
	}
	if !fits || e != want.e {
		t.Errorf("Where(%q): %d %d, want %d %d", s, line, e, want.line, want.e)
	}
	canonical, text := want.e, ""
	if want.e == api.OK {
		text = moduleText(want.m)
	}
	if len(text) > api.MaxText {
		canonical, text = api.ErrLarge, ""
	}
	if got, e := asm.Canonical(s); got != text || e != canonical {
		t.Errorf("Canonical(%q): %.300q %d, want %.300q %d", s, got, e, text, canonical)
	}
}

// inside is a function of which the second line is the first one in its only block.
func inside(lines string) string {
	return `"func.func"() ({ ^0(%a: i8, %b: i1, %c: index):` + "\n" + lines + "\n}) : () -> ()"
}

// of is a list of so many times the same in a text.
func of(n int, s string) string { return strings.Join(long(n, s), ", ") }

// rising is a list of so many attributes.
func rising(n int) string {
	var l []string
	for i := range n {
		l = append(l, fmt.Sprintf("a%03d = %d", i, i))
	}
	return strings.Join(l, ", ")
}

// defining is a list of so many names of values.
func defining(n int, behind string) string {
	var l []string
	for i := range n {
		l = append(l, fmt.Sprintf("%%x%d%s", i, behind))
	}
	return strings.Join(l, ", ")
}

func TestP7_2Right(t *testing.T) {
	for _, s := range []string{
		"",
		" ",
		"\n\n",
		"// nothing",
		exampleText,
		everyPart,
		everyPart + exampleText + everyPart,
		inside(""),
		inside(`"t.a"(%a,%b,%a):(i8,i1,i8)->()`),
		inside("\"t.a\"\n(\n%a\n)\n:\n(\ni8\n)\n->\n(\n)"),
		inside("\"t.a\"//\n(//(\n)//\n://:\n()->//->\n()//\n"),
		inside(`"t.a"(%b) : (i1) -> () "t.b"() : () -> ()`),
		// Numbers are names like others.
		inside(`%0 = "t.a"(%a) : (i8) -> (i64) "t.b"(%0) : (i64) -> ()`),
		inside(`%1, %0, %01, %00 = "t.a"() : () -> (i1, i2, i3, i4) "t.b"(%00, %0, %01, %1) : (i4, i2, i3, i1) -> ()`),
		inside(`%A, %_, %9z = "t.a"(%_) : (i2) -> (i1, i2, i3)`),
		inside(`%A = "t.a"() : () -> (i1) %a_ = "t.a"(%A) : (i1) -> (i1)`),
		// A value may be used before it is defined, and outside of what it is defined in.
		inside(`"t.a"(%x, %y) : (i64, i32) -> () %x = "t.b"() ({^0(%y: i32):}) : () -> (i64) "t.a"(%y) : (i32) -> ()`),
		// The same names in other functions, and of blocks in other regions; a value and a block of one name.
		inside(`%x = "t.a"() : () -> (i1)`) + inside(`%x = "t.a"() : () -> (i2)`),
		inside(`"t.a"() ({ ^0(): "t.b"()[^0, ^x] : () -> () ^x(): }, { ^x(): "t.b"()[^x, ^0] : () -> () ^0(): }) : () -> ()`),
		inside(`"t.a"()[^0] : () -> () ^1(): "t.b"()[^0, ^1] : () -> ()`),
		inside(`"t.a"()[^a(%a)] : () -> () ^a(%d: i8): "t.b"()[^a(%a, %d, %a)] : () -> ()`),
		inside(`"t.a"() {a = 5, b = -1} : () -> ()`),
		inside(`"t.a"(%a) {a = [ 1,-2 ], b = ( i1,index ), c = [], d = (), e = mem<i8>} : (i8) -> ()`),
		inside(`"t.a"() {a = "` + strings.Repeat("x", 1000) + `"} : () -> ()`),
		inside(`"t.a"() {a = [` + of(api.MaxList, "-1") + `], b = (` + of(api.MaxList, "i1") + `)} : () -> ()`),
		inside(`"t.a"() {` + rising(api.MaxList) + `} : () -> ()`),
		inside(`"t.a"(` + of(api.MaxList, "%a") + `) : (` + of(api.MaxList, "i8") + `) -> ()`),
		inside(defining(api.MaxList, "") + ` = "t.a"() : () -> (` + of(api.MaxList, "i8") + `)`),
		inside(`"t.a"()[` + of(api.MaxList, "^0") + `] : () -> ()`),
		inside(`"t.a"()[^0(` + of(api.MaxList, "%a") + `)] : () -> ()`),
		inside(`"t.a"() (` + of(api.MaxList, "{^0():}") + `) : () -> ()`),
		inside(`"t.a"() ({^0(` + defining(api.MaxList, ": i8") + `):}) : () -> ()`),
		inside(`"t.a"() ({` + blocks(api.MaxBlocks) + `}) : () -> ()`),
		inside(`%` + strings.Repeat("n", 5000) + ` = "t.a"() : () -> (i1)`),
		strings.Repeat(`"func.func"()({^0():}):()->()`, api.MaxOps),
		nested(api.MaxDepth),
	} {
		want := verdictOn(s)
		if want.e != api.OK {
			t.Fatalf("%.300q should be right: %d in %d", s, want.e, want.line)
		}
		hold(t, s, want)
	}
}

// blocks are so many blocks.
func blocks(n int) string {
	var s string
	for i := range n {
		s += fmt.Sprintf("^b%d():", i)
	}
	return s
}

// nested is a function with so many regions one inside of the other.
func nested(n int) string {
	return `"func.func"()({^0():` + strings.Repeat(`"t.a"()({^0():`, n-1) + strings.Repeat(`}):()->()`, n)
}

func TestP7_2WrongForms(t *testing.T) {
	for _, s := range []string{
		`"t.a"() : () -> ()`,
		`"func.func"() : () -> ()`,
		`"func.func"() ({}) : () -> ()`,
		`"func.func"() ({^0():}, {^0():}) : () -> ()`,
		`"func.fun"() ({^0():}) : () -> ()`,
		`"t.func"() ({^0():}) : () -> ()`,
		`%x = "func.func"() ({^0():}) : () -> (i8)`,
		`"func.func"(%x) ({^0(%x: i8):}) : (i8) -> ()`,
		exampleText + `"func.func"() : () -> ()` + exampleText,
		inside(`"t.a"() ({}) : () -> ()`),
		inside(`"t.a"() ({^0():}, {}) : () -> ()`),
		inside(`"t"() : () -> ()`),
		inside(`""() : () -> ()`),
		inside(`"t.A"() : () -> ()`),
		inside(`"t.a.b"() : () -> ()`),
		inside(`"t. a"() : () -> ()`),
		inside(`"t.a\""() : () -> ()`),
		inside(`"t.\x61"() : () -> ()`),
		inside(`"` + longestOp + `_"() : () -> ()`),
		inside(`"t.a"() {b = 1, a = 2} : () -> ()`),
		inside(`"t.a"() {a = 1, a = 1} : () -> ()`),
		inside(`"t.a"() {` + rising(api.MaxList+1) + `} : () -> ()`),
		inside(`"t.a"(` + of(api.MaxList+1, "%a") + `) : (` + of(api.MaxList+1, "i8") + `) -> ()`),
		inside(defining(api.MaxList+1, "") + ` = "t.a"() : () -> (` + of(api.MaxList+1, "i8") + `)`),
		inside(`"t.a"()[` + of(api.MaxList+1, "^0") + `] : () -> ()`),
		inside(`"t.a"()[^0(` + of(api.MaxList+1, "%a") + `)] : () -> ()`),
		inside(`"t.a"() (` + of(api.MaxList+1, "{^0():}") + `) : () -> ()`),
		inside(`"t.a"() ({^0(` + defining(api.MaxList+1, ": i8") + `):}) : () -> ()`),
		inside(`"t.a"() ({` + blocks(api.MaxBlocks+1) + `}) : () -> ()`),
		strings.Repeat(`"func.func"()({^0():}):()->()`, api.MaxOps+1),
		nested(api.MaxDepth + 1),
	} {
		if want := verdictOn(s); want.e != api.ErrForm || want.line != 0 {
			t.Fatalf("%.300q should have a wrong form: %d in %d", s, want.e, want.line)
		}
		hold(t, s, verdict{e: api.ErrForm})
		// What is no text is ErrText first.
		hold(t, s+"\n\n x", verdict{e: api.ErrText, line: 3 + strings.Count(s, "\n")})
		hold(t, inside(`"t.a"(%none) : (i8) -> ()`)+s, verdict{e: api.ErrText})
	}
}

// Names that are not defined, or twice, and lists of types that are not those of the values: in which line is not specified.
func TestP7_2WrongNames(t *testing.T) {
	for _, s := range []string{
		inside(`"t.a"(%x) : (i8) -> ()`),
		inside(`"t.a"(%0) : (i8) -> ()`),
		inside(`"t.a"(%A) : (i8) -> ()`),
		inside(`"t.a"()[^0(%x)] : () -> ()`),
		inside(`"t.a"(%x) : (i8) -> ()`) + inside(`%x = "t.a"() : () -> (i8)`),
		inside(`%x = "t.a"() : () -> (i8)`) + inside(`"t.a"(%x) : (i8) -> ()`),
		inside(`%a = "t.a"() : () -> (i8)`),
		inside(`%x, %x = "t.a"() : () -> (i8, i8)`),
		inside(`%x = "t.a"() : () -> (i8) %x = "t.a"() : () -> (i8)`),
		inside(`"t.a"() ({^0(%a: i8):}) : () -> ()`),
		inside(`"t.a"() ({^0(%x: i8):}, {^0(%x: i8):}) : () -> ()`),
		inside(`"t.a"() ({^0(%x: i8, %x: i8):}) : () -> ()`),
		inside(`%x = "t.a"() ({^0(%x: i8):}) : () -> (i8)`),
		inside(`^0():`),
		inside(`^1(): ^1():`),
		inside(`"t.a"() ({^x(): ^y(): ^x():}) : () -> ()`),
		inside(`"t.a"()[^1] : () -> ()`),
		inside(`"t.a"()[^00] : () -> ()`),
		inside(`"t.a"() ({^1(): "t.b"()[^0] : () -> ()}) : () -> ()`),
		inside(`"t.a"() ({^1(): }) : () -> () "t.b"()[^1] : () -> ()`),
		inside(`"t.a"() ({^1(): }, {^2(): "t.b"()[^1] : () -> () }) : () -> ()`),
		`"func.func"()[^0] ({^0():}) : () -> ()`,
		`"func.func"(%x) ({^0():}) : (i8) -> ()`,
		// Lists of types.
		inside(`"t.a"() : (i8) -> ()`),
		inside(`"t.a"(%a) : () -> ()`),
		inside(`"t.a"(%a) : (i1) -> ()`),
		inside(`"t.a"(%a) : (i8, i8) -> ()`),
		inside(`"t.a"(%a, %b) : (i1, i8) -> ()`),
		inside(`"t.a"(%a, %b) : (i8) -> ()`),
		inside(`"t.a"(%x) : (i8) -> () %x = "t.b"() : () -> (i1)`),
		inside(`"t.a"() : () -> (i8)`),
		inside(`%x = "t.a"() : () -> ()`),
		inside(`%x = "t.a"() : () -> (i8, i8)`),
		inside(`%x, %y = "t.a"() : () -> (i8)`),
		inside(`"t.a"() {a = [` + of(api.MaxList+1, "1") + `]} : () -> ()`),
		inside(`"t.a"() {a = (` + of(api.MaxList+1, "i1") + `)} : () -> ()`),
	} {
		if want := verdictOn(s); want.e != api.ErrText || want.line != 0 {
			t.Fatalf("%.300q should have a wrong name: %d in %d", s, want.e, want.line)
		}
		hold(t, s, verdict{e: api.ErrText})
		// A token that can't stand where it does decides, wherever it stands.
		n := len(slices.Collect(strings.Lines(s)))
		hold(t, "\n"+s+"\n;", verdict{e: api.ErrText, line: n + 2})
		hold(t, "\n;\n"+s, verdict{e: api.ErrText, line: 2})
		hold(t, "\n\n"+s+"\n"+`"func.func"`, verdict{e: api.ErrText, line: n + 3})
	}
}

// wrongTokens are texts for which | stands before the first token that can't stand where it does, or at the end.
func wrongTokens() []string {
	var l []string
	for _, s := range words("x ^0 ( ) { } [ ] , = : -> 5 @f ; \" % %% %a.b i8 /") {
		l = append(l, "|"+s, exampleText+"|"+s)
	}
	for _, s := range []string{
		`%0 |`, `%0 |"func.func"`, `%0, |`, `%0, |, %1`, `%0, |= "t.a"`, `%0 = |`, `%0 = |x`, `%0 = |%1`, `%0 = |=`, `%0, |"t.a"`,
		`"func.func"|`, `"func.func" |)`, `"func.func"(|`, `"func.func"(|,`, `"func.func"(%a |%b`, `"func.func"(%a, |)`, `"func.func"(|^a)`, `"func.func"(|a)`,
		`"func.func"(|%a.b)`, `"func.func"(|%)`, `"func.func"(|%%)`, `"func.func"(|%a-)`, `"func.func"(%a|->)`,
		`"func.func"() |`, `"func.func"() |"x"`, `"func.func"() |->`, `"func.func"() |]`, `"func.func"() |%0`,
		`"func.func"()[|]`, `"func.func"()[|%0]`, `"func.func"()[^0 |:`, `"func.func"()[^0, |]`, `"func.func"()[^0(|)]`, `"func.func"()[^0(%0, |)]`, `"func.func"()[^0(%0)|)`, `"func.func"()[^0] |[`, `"func.func"()[|^0.a`, `"func.func"()[|^`,
		`"func.func"() {|}`, `"func.func"() {|5`, `"func.func"() {|A`, `"func.func"() {|"a"`, `"func.func"() {|a.b`, `"func.func"() {|_`, `"func.func"() {|` + longestName + `a`, `"func.func"() {a |:`, `"func.func"() {a |}`, `"func.func"() {a = |}`, `"func.func"() {a = |a}`,
		`"func.func"() {a = |05}`, `"func.func"() {a = |-}`, `"func.func"() {a = |-0}`, `"func.func"() {a = |9223372036854775808}`, `"func.func"() {a = |@}`, `"func.func"() {a = |@F}`, `"func.func"() {a = |@` + longestName + `a}`,
		`"func.func"() {a = |i0}`, `"func.func"() {a = |i65}`, `"func.func"() {a = |mem<1001xi8>}`, `"func.func"() {a = |"\q"}`, `"func.func"() {a = |"\x41"}`, `"func.func"() {a = |"` + "\n" + `"}`, `"func.func"() {a = |"` + "\xff" + `"}`, `"func.func"() {a = |"` + strings.Repeat("x", 1001) + `"}`,
		`"func.func"() {a = 5 |5}`, `"func.func"() {a = 5, |}`, `"func.func"() {a = 5 |)`, `"func.func"() {a = |->`, `"func.func"() {a = |{}`,
		`"func.func"() {a = [|,`, `"func.func"() {a = [|i8`, `"func.func"() {a = [|)`, `"func.func"() {a = [5 |)`, `"func.func"() {a = [5, |]`, `"func.func"() {a = [5, |05`, `"func.func"() {a = [5 |6`, `"func.func"() {a = [|@f`, `"func.func"() {a = [|"x"`, `"func.func"() {a = [5, |[`, `"func.func"() {a = [] |]`,
		`"func.func"() {a = (|5`, `"func.func"() {a = (|]`, `"func.func"() {a = (i8 |]`, `"func.func"() {a = (i8, |)`, `"func.func"() {a = (i8 |i8`, `"func.func"() {a = (|@f`, `"func.func"() {a = (|i65`, `"func.func"() {a = () |)`,
		`"func.func"() {a = 5} |{`, `"func.func"() {a = 5} |[`, `"func.func"() {a = 5} |->`,
		`"func.func"() (|)`, `"func.func"() (|^0`, `"func.func"() (|%0`, `"func.func"() ({|(`, `"func.func"() ({|"t.a"`, `"func.func"() ({|%0`, `"func.func"() ({^0|:`, `"func.func"() ({^0|{`, `"func.func"() ({^0(|0`, `"func.func"() ({^0(%0|)`, `"func.func"() ({^0(%0|,`, `"func.func"() ({^0(%0:|)`, `"func.func"() ({^0(%0:|x`, `"func.func"() ({^0(%0:|i65`,
		`"func.func"() ({^0(%0: i8,|)`, `"func.func"() ({^0(%0: i8 |:`, `"func.func"() ({^0() |{`, `"func.func"() ({^0() |"t.a"`, `"func.func"() ({^0(): |(`, `"func.func"() ({^0(): |)`, `"func.func"() ({^0(): |:`, `"func.func"() ({^0(): |x`, `"func.func"() ({^0(): ^1|:`, `"func.func"() ({^0(): |^a.b`, `"func.func"() ({|^a.b`,
		`"func.func"() ({^0():} |}`, `"func.func"() ({^0():} |{`, `"func.func"() ({^0():}, |)`, `"func.func"() ({^0():}) |(`, `"func.func"() ({^0():}) |{`, `"func.func"() ({^0():}) |->`, `"func.func"() ({^0():}) |`,
		`"func.func"() : |`, `"func.func"() : |i8`, `"func.func"() : (|,`, `"func.func"() : (|x`, `"func.func"() : (|i0`, `"func.func"() : (|5`, `"func.func"() : (|%0`, `"func.func"() : (|"x"`, `"func.func"() : (i8 |i8`, `"func.func"() : (i8,|)`, `"func.func"() : () |:`, `"func.func"() : () |-`, `"func.func"() : () |- >`, `"func.func"() : () |(`,
		`"func.func"() : () -> |i8`, `"func.func"() : () -> (|->`, `"func.func"() : () -> (|mem<mem<i8>>`, `"func.func"() : () -> (i8, |)`, `"func.func"() : () -> () |,`, `"func.func"() : () -> () |)`, `"func.func"() : () -> () |^0`,
		`|"func.func`, `"func.func"(|"`, `"func.func"() {a = |"x`, `"func.func"() {a = |"x\"`, `|/`, `"func.func"() : () -> () |/`, `"func.func"() : () -> () |/ /`, `"func.func"(|` + "\t", `"func.func"(|` + "é",
	} {
		l = append(l, s)
	}
	return l
}

// Where says in which line a token stands that can't, however many lines come before and behind it.
func TestP7_4WrongTokens(t *testing.T) {
	for _, marked := range wrongTokens() {
		before, behind, _ := strings.Cut(marked, "|")
		for _, gap := range []string{"", " ", "\n", "\n// ;\n\n ", "//\n"} {
			s := before + gap + behind
			line := 1 + strings.Count(before+gap, "\n")
			if behind == "" {
				line = len(slices.Collect(strings.Lines(s)))
			}
			if want := verdictOn(s); want.e != api.ErrText || want.line != line {
				t.Fatalf("%.300q: %d in %d, want %d", s, want.e, want.line, line)
			}
			hold(t, s, verdict{e: api.ErrText, line: line})
			if behind == "" {
				continue
			}
			hold(t, "\n\n"+s+"\n\n;\n", verdict{e: api.ErrText, line: line + 2})
		}
	}
}

// Where all tokens could stand, but the text is not at its end, the last line counts, whether it has a line feed or not.
func TestP7_4Ends(t *testing.T) {
	for _, c := range []struct {
		s    string
		line int
	}{
		{`"func.func"`, 1},
		{`"func.func"` + "\n", 1},
		{`"func.func"` + "\n ", 2},
		{`"func.func"` + "\n\n", 2},
		{`"func.func"` + "\n\n// c", 3},
		{`"func.func"` + "\n\n// c\n", 3},
		{"\n\n\n" + `"func.func"`, 4},
		{exampleText + "%0", 6},
		{exampleText + "%0\n", 6},
		{"%0", 1},
		{"%0 =\n\n\n\n", 4},
	} {
		if want := verdictOn(c.s); want.e != api.ErrText || want.line != c.line {
			t.Fatalf("%q: %d in %d, want %d", c.s, want.e, want.line, c.line)
		}
		hold(t, c.s, verdict{e: api.ErrText, line: c.line})
	}
}

func TestP7_2Large(t *testing.T) {
	filled := exampleText + strings.Repeat(" ", api.MaxText-len(exampleText))
	hold(t, filled, verdict{m: example(), e: api.OK})
	hold(t, filled+" ", verdict{e: api.ErrLarge})
	hold(t, filled+";", verdict{e: api.ErrLarge})
	hold(t, filled[1:]+" ;", verdict{e: api.ErrLarge})
	hold(t, filled[:api.MaxText-1]+";", verdict{e: api.ErrText, line: 6})
	hold(t, strings.Repeat("\n", api.MaxText-1)+";", verdict{e: api.ErrText, line: api.MaxText})
	hold(t, strings.Repeat("(", api.MaxText), verdict{e: api.ErrText, line: 1})
	hold(t, strings.Repeat("\n", api.MaxText), verdict{e: api.OK})
	// The canonical string may be too large where the text is not.
	large := module(fn(block(words("i8"), long(400, op("t.a", long(api.MaxList, 0)))...)))
	tight := strings.NewReplacer(" ", "", "\n", "").Replace(moduleText(large))
	if len(tight) > api.MaxText || len(moduleText(large)) <= api.MaxText {
		t.Fatalf("%d and %d bytes", len(tight), len(moduleText(large)))
	}
	hold(t, tight, verdict{m: large, e: api.OK})
}

// Texts with many levels, names or tokens are read, too.
func TestP7_2Deep(t *testing.T) {
	open := `"t.a"()({^0():`
	n := api.MaxText / len(open)
	hold(t, strings.Repeat(open, n), verdict{e: api.ErrText, line: 1})
	hold(t, nested(10000), verdict{e: api.ErrForm})
	hold(t, nested(10000)+"}", verdict{e: api.ErrText, line: 1})
	hold(t, `"func.func"()({^0():}`+strings.Repeat(",{^0():}", 30000)+`):()->()`, verdict{e: api.ErrForm})
	hold(t, inside(defining(20000, "")+` = "t.a"() : () -> (`+of(20000, "i8")+`)`), verdict{e: api.ErrForm})
	hold(t, inside(`"t.a"(`+of(20000, "%a")+`) : (`+of(20000, "i8")+`) -> ()`), verdict{e: api.ErrForm})
}
