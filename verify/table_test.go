package verify_test

import (
	"fmt"
	"math"
	"strings"
	"testing"

	"demotic/verify"
)

// wrong is the text of a module, and its faults: places like "0 [0 1]", each with its error.
type wrong struct{ text, faults string }

// expect holds all faults of a module against those that are written like "0 [0 1] 64, 1 [] 65".
func expect(t *testing.T, text, faults string) {
	t.Helper()
	m := read(text)
	if got := written(everyFault(t, m, others())); got != faults {
		t.Errorf("%s\n%s, want %s", text, got, faults)
	}
	if got := written(faultsOf(m, others())); got != faults {
		t.Errorf("%s\nthe second reading: %s, want %s", text, got, faults)
	}
}

func written(faults []verify.Fault) string {
	var l []string
	for _, x := range faults {
		l = append(l, said(x.F, x.Path, x.Errno))
	}
	return strings.Join(l, ", ")
}

// expectInside does that for lines of a function (see inside).
func expectInside(t *testing.T, cases []wrong) {
	t.Helper()
	for _, c := range cases {
		expect(t, inside(c.text), c.faults)
	}
}

const ret = "\nfunc.return"

func TestExamples(t *testing.T) {
	for _, c := range []wrong{
		{"", ""},
		{"fn f -> {\nfunc.return\n}", ""},
		{"fn f -> {\narith.const value=1 : i8\n}", "0 [0 0] 64"},
		{"fn f -> i32 { i32 i32\narith.add 0 1 : i32\nfunc.return 2\n}", ""},
		{"fn f -> {\nfunc.call callee=@g\nfunc.return\n}\nfn g -> {\nfunc.return\n}", ""},
		{"fn f -> { i64\nfunc.call 0 callee=@g\nfunc.return\n}\nfn g -> { i32\nfunc.return\n}", "0 [0 0] 65"},
		{"fn f -> {\ntoy.use 0\narith.const value=1 : i8\nfunc.return\n}", "0 [0 0] 63"},
	} {
		expect(t, c.text, c.faults)
	}
}

func TestErrOp(t *testing.T) {
	expectInside(t, []wrong{
		{"no.such" + ret, "0 [0 0] 60"},
		{"toy.such" + ret, "0 [0 0] 60"},
		{"arith.such" + ret, "0 [0 0] 60"},
		{"no.such : i8\ntoy.use 10" + ret, "0 [0 0] 60"},
		// Whatever else is wrong with it.
		{"no.such 11 : !no.such ^0 3 ^0 x_a=1 x_b=2 value=3\narith.const value=1 : i8" + ret, "0 [0 0] 60"},
		{"no.such", "0 [0 0] 60"},
		// What is inside of it is looked at, too.
		{"no.such {\narith.const value=1 : i8\n}" + ret, "0 [0 0] 60, 0 [0 0 0 0 0] 64"},
		{"no.such {\n}" + ret, "0 [0 0] 60"},
		// Functions inside of functions.
		{"func.func name=@g results=() {\nfunc.return\n}" + ret, "0 [0 0] 60, 0 [0 0 0 0 0] 64"},
		{"toy.around {\nfunc.func name=@g results=() {\ntoy.end\n}\ntoy.end\n}" + ret, "0 [0 0 0 0 0] 60"},
		{"func.func" + ret, "0 [0 0] 60"},
	})
	// They have no names that others could call, or that others could not have.
	expect(t, "fn f -> {\nfunc.func name=@g results=() {\ntoy.end\n}\nfunc.call callee=@g\nfunc.return\n}", "0 [0 0] 60, 0 [0 1] 65")
	expect(t, "fn f -> {\nfunc.func name=@g results=() {\ntoy.end\n}\nfunc.return\n}\nfn g -> {\nfunc.return\n}", "0 [0 0] 60")
}

// What descriptions say: regions, successors, attributes, operands and results.
func TestDescriptions(t *testing.T) {
	expectInside(t, []wrong{
		{"arith.add 2 3 : i8" + ret, ""},
		{"arith.add 2 : i8" + ret, "0 [0 0] 61"},
		{"arith.add 2 3 3 : i8" + ret, "0 [0 0] 61"},
		{"arith.add 2 3" + ret, "0 [0 0] 61"},
		{"arith.add 2 3 : i8 i8" + ret, "0 [0 0] 61"},
		{"arith.add 2 0 : i8" + ret, "0 [0 0] 62"},
		{"arith.add 2 3 : i7" + ret, "0 [0 0] 62"},
		{"arith.add 6 6 : mem<4xi8>" + ret, "0 [0 0] 62"},
		{"arith.add 2 3 : i8 value=1" + ret, "0 [0 0] 61"},
		{"arith.add 2 3 : i8 x_a=1 x_b=a" + ret, ""},
		{"arith.add 2 3 : i8 {\ntoy.end\n}" + ret, "0 [0 0] 61"},
		{"arith.add 2 3 : i8 {\n}" + ret, "0 [0 0] 61"},
		{"arith.add 2 3 : i8 ^1" + ret + "\n^" + ret, "0 [0 0] 61"},
		{"arith.const : i8" + ret, "0 [0 0] 61"},
		{"arith.const value=a : i8" + ret, "0 [0 0] 61"},
		{"func.call" + ret, "0 [0 0] 61"},
		{"func.call callee=g" + ret, "0 [0 0] 61"},
		{"toy.noted n=1" + ret, "0 [0 0] 61"},
		{"toy.noted n=1 t=1" + ret, "0 [0 0] 61"},
		{"toy.noted n=1 t=:!no.such x_t=:!no.such" + ret, ""},
		{"mem.load 6 4 : i8" + ret, ""},
		{"mem.load 6 : i8" + ret, "0 [0 0] 61"},
		{"mem.load 6 4 4 : i8" + ret, "0 [0 0] 61"},
		{"mem.load 6 4 : i9" + ret, "0 [0 0] 62"},
		{"mem.load 6 2 : i8" + ret, "0 [0 0] 62"},
		{"mem.store 6 2 4" + ret, ""},
		{"mem.store 6 0 4" + ret, "0 [0 0] 62"},
		{"mem.copy 6 6" + ret, ""},
		{"mem.copy 6 7" + ret, "0 [0 0] 62"},
		{"arr.get 7 4 5 : i8\narr.set 7 10 5 4 : arr<2x3xi8>" + ret, ""},
		{"arr.get 7 4 : i8" + ret, "0 [0 0] 61"},
		{"arr.set 7 2 4 4 : arr<3x2xi8>" + ret, "0 [0 0] 62"},
		{"arith.select 0 6 6 : mem<4xi8>" + ret, ""},
		{"arith.select 2 6 6 : mem<4xi8>" + ret, "0 [0 0] 62"},
		{"io.print 2\nio.print 4" + ret, ""},
		{"io.print 8" + ret, "0 [0 0] 62"},
		{"toy.both 8 8 : !toy.t\ntoy.make : !toy.t\ntoy.use 0 2 4 6 7 8 9 10" + ret, ""},
		{"toy.both 8 2 : !toy.t" + ret, "0 [0 0] 62"},
		{"toy.make : !toy.s" + ret, "0 [0 0] 62"},
		{"toy.turn 6 : arr<4xi8>" + ret, ""},
		{"toy.turn 6 : mem<4xi8>" + ret, "0 [0 0] 62"},
		{"toy.around 0 : i8\n" + ret, "0 [0 0] 61"},
		{"scf.if 0 {\nscf.yield\n}" + ret, "0 [0 0] 61"},
		{"toy.blocks {\ntoy.end\n^\ntoy.end\n} {\ntoy.go ^1\n^\ntoy.end\n}" + ret, ""},
		{"toy.around {\ntoy.end\n^\ntoy.end\n}" + ret, "0 [0 0] 61"},
	})
}

// Types that no dialect has: of operands, of results, of arguments of regions, and of what functions return.
func TestForeignTypes(t *testing.T) {
	expectInside(t, []wrong{
		{"zoo.ant : !toy.t !zoo.u !toy.s\ntoy.use 10 11 12" + ret, ""},
		{"zoo.ant : !toy.u" + ret, "0 [0 0] 62"},
		{"zoo.ant : i8 !no.such\ntoy.use 11\ntoy.use 10" + ret, "0 [0 0] 62, 0 [0 1] 62"},
		{"zoo.ant : !arith.t" + ret, "0 [0 0] 62"},
		{"zoo.ant : !toy.to" + ret, "0 [0 0] 62"},
		{"toy.around {  i8 !zoo.u\ntoy.end\n}" + ret, ""},
		{"toy.around { i8 !zoo.v\ntoy.end\n}" + ret, "0 [0 0] 62"},
		{"toy.blocks {\ntoy.go ^1\n^\ntoy.end\n} {\ntoy.end\n^ !no.such\ntoy.end\n}" + ret, "0 [0 0] 62"},
		// After wrong numbers of others.
		{"arith.add 2 3 : !no.such !no.such" + ret, "0 [0 0] 61"},
		{"toy.use 11\nzoo.ant : i8 !no.such" + ret, "0 [0 0] 62, 0 [0 1] 62"},
	})
	for _, c := range []wrong{
		{"fn f -> { !toy.t\nfunc.return\n}", ""},
		{"fn f -> { i8 !toy.no\nfunc.return\n}", "0 [] 62"},
		{"fn f -> !zoo.u { !zoo.u\nfunc.return 0\n}", ""},
		{"fn f -> !zoo.t {\ntoy.end\n}", "0 [] 62"},
		{"fn f -> i8 !zoo.t {\ncf.trap code=16\n}", "0 [] 62"},
		{"fn f -> {\nfunc.return\n^ !no.such\nfunc.return\n}", "0 [] 62"},
		{"fn f -> !no.such { !no.such\nfunc.return 0\n}", "0 [] 62, 0 [0 0] 62"},
		// Other attributes are not looked at.
		{"func.func name=@f results=() x_r=(!no.such) {\nfunc.return\n}", ""},
	} {
		expect(t, c.text, c.faults)
	}
	// Without the dialects.
	for _, c := range []wrong{{"fn f -> { !toy.t\nfunc.return\n}", "[{0 [] 62}] 0"}, {"fn f -> { i8\ntoy.use 0\nfunc.return\n}", "[{0 [0 0] 60}] 0"}} {
		if got := said(verify.All(read(c.text), nil)); got != c.faults {
			t.Errorf("%s: %s, want %s", c.text, got, c.faults)
		}
	}
}

func TestFunctions(t *testing.T) {
	for _, c := range []wrong{
		{"fn f -> i8 index { i8 index\nfunc.return 0 1\n}", ""},
		{"fn f -> i8 index { i8 index\nfunc.return 0\n}", "0 [0 0] 61"},
		{"fn f -> i8 index { i8 index\nfunc.return 0 1 1\n}", "0 [0 0] 61"},
		{"fn f -> i8 index { i8 index\nfunc.return 1 0\n}", "0 [0 0] 62"},
		{"fn f -> { i8\nfunc.return 0\n}", "0 [0 0] 61"},
		{"fn f -> i8 { i8\nfunc.return\n}", "0 [0 0] 61"},
		// Each one of several, also one that does not end its block, and one in a block that is not reachable.
		{"fn f -> i8 { i8 i1\ncf.cond 1 ^1 ^2\n^\nfunc.return 0\n^\nfunc.return 1\n^\nfunc.return\n}", "0 [2 0] 62, 0 [3 0] 61"},
		{"fn f -> i8 { i8\nfunc.return 0\nfunc.return 0\n}", "0 [0 0] 64"},
		{"fn f -> i8 { i8 i1\nfunc.return 1\nfunc.return\nfunc.return 0\n}", "0 [0 0] 62, 0 [0 1] 61"},
		// What is inside of operations does not return: its operands are not looked at.
		{"fn f -> { i8\ntoy.around {\nfunc.return\n}\nfunc.return\n}", "0 [0 0 0 0 0] 64"},
		{"fn f -> { i8 i1\nscf.if 1 {\nfunc.return 0\n} {\nfunc.return 1 1\n}\nfunc.return\n}", "0 [0 0 0 0 0] 64, 0 [0 0 1 0 0] 64"},
		{"fn f -> { i8\ntoy.around {\nfunc.return 0\ntoy.end\n}\nfunc.return\n}", "0 [0 0 0 0 0] 64"},
		{"fn f -> { i8\ntoy.around {\ncf.br ^1\n^\ntoy.end\n}\nfunc.return\n}", "0 [0 0] 61, 0 [0 0 0 0 0] 64"},
		{"fn f -> { i1\ntoy.blocks {\ncf.cond 0 ^1 ^1\n^\ncf.trap code=20\n} {\ncf.br ^1\n^\nfunc.return 0\n}\nfunc.return\n}", "0 [0 0 0 0 0] 64, 0 [0 0 0 1 0] 64, 0 [0 0 1 0 0] 64, 0 [0 0 1 1 0] 64"},
		// Other ends.
		{"fn f -> i8 {\ntoy.end\n}", ""},
		{"fn f -> i8 {\ntoy.go ^1\n^\ncf.trap code=16\n}", ""},
		{"fn f -> {\nscf.yield\n}", "0 [0 0] 64"},
		{"fn f -> { i1\nscf.cond 0\n}", "0 [0 0] 64"},
		{"fn f -> { i8\nscf.cond 0\n}", "0 [0 0] 62"},
		{"fn f -> {\nscf.cond\n}", "0 [0 0] 61"},
		{"fn f -> { i8 i8\nscf.yield 0 1\nfunc.return\n}", "0 [0 0] 64"},
		// Blocks without operations.
		{"fn f -> {\n}", "0 [] 64"},
		{"fn f -> {\nfunc.return\n^\n^\nfunc.return\n}", "0 [] 64"},
		{"fn f -> {\nfunc.return\n^ i8\n}", "0 [] 64"},
		{"fn f -> !no.such {\n}", "0 [] 62"},
		// Attributes.
		{"func.func {\nfunc.return\n}", "0 [] 61"},
		{"func.func name=@f {\nfunc.return\n}", "0 [] 61"},
		{"func.func results=() {\nfunc.return\n}", "0 [] 61"},
		{"func.func name=f results=() {\nfunc.return\n}", "0 [] 61"},
		{"func.func name=@f results=(i8) {\nfunc.return\n}", "0 [0 0] 61"},
		{"func.func name=@f results=i8 {\nfunc.return\n}", "0 [] 61"},
		{"func.func name=@f results=() x_private=1 {\nfunc.return\n}", ""},
		{"func.func name=@f results=() private=1 {\nfunc.return\n}", "0 [] 61"},
	} {
		expect(t, c.text, c.faults)
	}
}

func TestSuccessors(t *testing.T) {
	expectInside(t, []wrong{
		{"cf.br ^1\n^" + ret, ""},
		{"cf.br ^1 2 4\n^ i8 index" + ret, ""},
		{"cf.br ^0", "0 [0 0] 61"},
		{"cf.br ^0 0 1 2 3 4 5 6 7 8 9", "0 [0 0] 61"},
		{"cf.br ^1\n^ i8" + ret, "0 [0 0] 61"},
		{"cf.br ^1 2 2\n^ i8" + ret, "0 [0 0] 61"},
		{"cf.br ^1 4\n^ i8" + ret, "0 [0 0] 62"},
		{"cf.br ^1 2 4\n^ index i8" + ret, "0 [0 0] 62"},
		{"cf.br ^2 2\n^\ncf.br ^2 3\n^ i8\ncf.br ^2 10", ""},
		{"cf.br\n^" + ret, "0 [0 0] 61"},
		{"cf.br ^1 ^1\n^" + ret, "0 [0 0] 61"},
		{"cf.cond 0 ^1 2 ^2\n^ i8" + ret + "\n^" + ret, ""},
		{"cf.cond 0 ^1 2 ^1 3\n^ i8" + ret, ""},
		{"cf.cond 0 ^1 2 ^2 4\n^ i8" + ret + "\n^ i8" + ret, "0 [0 0] 62"},
		{"cf.cond 0 ^1 4 ^2\n^ i8" + ret + "\n^ i8" + ret, "0 [0 0] 61"},
		{"cf.cond 0 ^1 4 ^0\n^ i8" + ret, "0 [0 0] 61"},
		{"cf.cond 2 ^1 ^1\n^" + ret, "0 [0 0] 62"},
		{"cf.cond 2 ^1 ^0\n^" + ret, "0 [0 0] 61"},
		{"cf.cond 0 ^1\n^" + ret, "0 [0 0] 61"},
		// Of operations of other dialects, and inside of others.
		{"toy.fork 2 ^1 8 ^2\n^ !toy.t" + ret + "\n^" + ret, ""},
		{"toy.fork ^1 ^1 8\n^ !toy.t" + ret, "0 [0 0] 61"},
		{"toy.fork ^1 8 ^1 2\n^ !toy.t" + ret, "0 [0 0] 62"},
		{"toy.fork ^0 ^1 8\n^ !toy.t" + ret, "0 [0 0] 61"},
		{"toy.blocks {\ntoy.go : i8 ^1 2\n^ i8\ntoy.go : i8 ^1 11\n} {\ntoy.end\n}" + ret, ""},
		{"toy.blocks {\ntoy.go : i8 ^1 0\n^ i8\ntoy.go : i8 ^0\n} {\ntoy.end\n}" + ret, "0 [0 0 0 0 0] 62, 0 [0 0 0 1 0] 61"},
		{"toy.around {\ntoy.go : i8 ^0\n}" + ret, "0 [0 0 0 0 0] 61"},
		// Also if it does not end its block.
		{"cf.br ^1\ncf.br ^1 2\ncf.br ^1 4\n^ i8" + ret, "0 [0 0] 61, 0 [0 1] 64, 0 [0 2] 62"},
	})
}

// The rows of the operations of arith, mem, arr and cf.
func TestSingleRows(t *testing.T) {
	cases := []wrong{
		{"arith.const value=0" + ret, "0 [0 0] 61"},
		{"arith.const value=0 : i8 i8" + ret, "0 [0 0] 61"},
		{"arith.const value=500 : i8 mem<i8>" + ret, "0 [0 0] 61"},
		{"arith.const value=0 : mem<i8>" + ret, "0 [0 0] 62"},
		{"arith.const value=0 : !toy.t" + ret, "0 [0 0] 62"},
		{"arith.exts 2" + ret, "0 [0 0] 61"},
		{"arith.extu 2 : i9 i9" + ret, "0 [0 0] 61"},
		{"arith.extu 2 : i3 i3" + ret, "0 [0 0] 61"},
		{"arith.trunc 2 : i7 i7" + ret, "0 [0 0] 61"},
		{"arith.cast 2 : index index" + ret, "0 [0 0] 61"},
		{"arith.cast 2" + ret, "0 [0 0] 61"},
		{"arith.cast 2 : index" + ret, ""},
		{"arith.cast 4 : i8\narith.cast 0 : index\narith.cast 4 : i64" + ret, ""},
		{"arith.cast 2 : i8\narith.cast 4 : index" + ret, ""},
		{"arith.cast 2 : i9" + ret, "0 [0 0] 62"},
		{"arith.cast 6 : mem<4xi8>" + ret, "0 [0 0] 62"},
		{"arith.cast 4 : mem<4xi8>" + ret, "0 [0 0] 62"},
		{"mem.alloc : mem<i8>\nmem.alloc : mem<0x3xindex>" + ret, ""},
		{"mem.alloc" + ret, "0 [0 0] 61"},
		{"mem.alloc : mem<i8> mem<i8>" + ret, "0 [0 0] 61"},
		{"mem.alloc : arr<i8>" + ret, "0 [0 0] 62"},
		{"mem.alloc : i8" + ret, "0 [0 0] 62"},
		{"mem.alloc : !toy.t" + ret, "0 [0 0] 62"},
		{"arr.splat 2 : arr<i8>\narr.splat 4 : arr<2x1xindex>" + ret, ""},
		{"arr.splat 2" + ret, "0 [0 0] 61"},
		{"arr.splat 2 : arr<i8> arr<i8>" + ret, "0 [0 0] 61"},
		{"arr.splat 2 : arr<i9>" + ret, "0 [0 0] 62"},
		{"arr.splat 2 : arr<index>" + ret, "0 [0 0] 62"},
		{"arr.splat 2 : mem<i8>" + ret, "0 [0 0] 62"},
		{"arr.splat 2 : i8" + ret, "0 [0 0] 62"},
		{"arr.splat 8 : arr<i8>" + ret, "0 [0 0] 62"},
	}
	for _, pred := range words("eq ne slt sle sgt sge ult ule ugt uge") {
		cases = append(cases,
			wrong{"arith.cmp 2 3 : i1 pred=" + pred + ret, ""},
			wrong{"arith.cmp 2 3 : i8 pred=" + pred + ret, "0 [0 0] 62"},
			wrong{"arith.cmp 2 3 : i1 pred=" + pred + "x" + ret, "0 [0 0] 62"},
			wrong{"arith.cmp 2 3 : i1 pred=@" + pred + ret, "0 [0 0] 61"},
			wrong{"arith.cmp 2 3 : i1 pred=" + strings.ToUpper(pred) + ret, "0 [0 0] 62"})
	}
	for _, pred := range words("lt le gt ge une s u ult,ule") {
		cases = append(cases, wrong{"arith.cmp 2 3 : i1 pred=" + pred + ret, "0 [0 0] 62"})
	}
	for _, c := range []struct {
		code int64
		ok   bool
	}{{15, false}, {16, true}, {17, true}, {1<<31 - 1, true}, {1 << 31, false}, {1<<32 + 16, false}, {0, false}, {1, false}, {-16, false}, {math.MaxInt64, false}, {math.MinInt64, false}} {
		cases = append(cases, wrong{fmt.Sprint("cf.trap code=", c.code), unless(c.ok, "0 [0 0] 62")})
	}
	expectInside(t, append(cases, wrong{"cf.trap code=16 ^0", "0 [0 0] 61"}, wrong{"cf.trap", "0 [0 0] 61"}))
}

// unless is a text unless something holds.
func unless(holds bool, text string) string {
	if holds {
		return ""
	}
	return text
}

// Constants at the ends of the ranges of all number types.
func TestConstants(t *testing.T) {
	expectConstant := func(name string, n int64, ok bool) {
		expect(t, fmt.Sprint("fn f -> {\narith.const value=", n, " : ", name, "\nfunc.return\n}"), unless(ok, "0 [0 0] 62"))
	}
	for bits := 1; bits <= 64; bits++ {
		name := fmt.Sprint("i", bits)
		high := int64(1)<<(bits-1) - 1
		expectConstant(name, high, true)
		expectConstant(name, -high-1, true)
		expectConstant(name, 0, true)
		expectConstant(name, -1, true)
		if bits < 64 {
			expectConstant(name, high+1, false)
			expectConstant(name, -high-2, false)
			expectConstant(name, math.MaxInt64, false)
			expectConstant(name, math.MinInt64, false)
		}
	}
	expectConstant("index", math.MaxInt64, true)
	expectConstant("index", math.MinInt64, true)
}

// exts, extu, trunc and cast between all pairs of some types.
func TestWidths(t *testing.T) {
	names := words("i1 i2 i7 i8 i9 i32 i63 i64 index")
	for i, from := range names {
		for k, to := range names {
			isInteger := from != "index" && to != "index"
			for name, ok := range map[string]bool{
				"arith.exts":  isInteger && i < k,
				"arith.extu":  isInteger && i < k,
				"arith.trunc": isInteger && i > k,
				"arith.cast":  !isInteger || i == k,
			} {
				expect(t, "fn f -> { "+from+"\n"+name+" 0 : "+to+"\nfunc.return\n}", unless(ok, "0 [0 0] 62"))
			}
		}
	}
}
