package verify_test

import (
	"fmt"
	"math"
	"testing"
)

func TestIf(t *testing.T) {
	expectInside(t, []wrong{
		{"scf.if 0 {\nscf.yield\n} {\nscf.yield\n}" + ret, ""},
		{"scf.if 0 : i8 i1 {\nscf.yield 2 0\n} {\nscf.yield 3 1\n}\ntoy.use 10 11" + ret, ""},
		{"scf.if 2 {\nscf.yield\n} {\nscf.yield\n}" + ret, "0 [0 0] 62"},
		{"scf.if {\nscf.yield\n} {\nscf.yield\n}" + ret, "0 [0 0] 61"},
		{"scf.if 0 0 {\nscf.yield\n} {\nscf.yield\n}" + ret, "0 [0 0] 61"},
		// Arguments of the regions.
		{"scf.if 0 { i8\nscf.yield\n} {\nscf.yield\n}" + ret, "0 [0 0] 61"},
		{"scf.if 0 {\nscf.yield\n} { i8 i8\nscf.yield\n}" + ret, "0 [0 0] 61"},
		{"scf.if 0 { !no.such\nscf.yield\n} {\nscf.yield\n}" + ret, "0 [0 0] 61"},
		// Ends: errors of the operation that ends the block.
		{"scf.if 0 {\nscf.cond 0\n} {\nscf.cond 1 2\n}" + ret, "0 [0 0 0 0 0] 64, 0 [0 0 1 0 0] 64"},
		{"scf.if 0 {\ntoy.end\n} {\ncf.trap code=16\n}" + ret, "0 [0 0 0 0 0] 64, 0 [0 0 1 0 0] 64"},
		{"scf.if 0 {\nscf.yield\n} {\narith.add 2 3 : i8\n}" + ret, "0 [0 0 1 0 0] 64"},
		{"scf.if 0 : i8 {\nscf.yield 2\nscf.yield 3\n} {\nscf.yield 2\n}" + ret, "0 [0 0 0 0 0] 64"},
		{"scf.if 0 {\n} {\nscf.yield\n}" + ret, "0 [0 0] 64"},
		{"scf.if 0 {\nscf.yield\n} {\n}" + ret, "0 [0 0] 64"},
		// What is yielded, also not at the end.
		{"scf.if 0 : i8 {\nscf.yield\n} {\nscf.yield 2 2\n}" + ret, "0 [0 0 0 0 0] 61, 0 [0 0 1 0 0] 61"},
		{"scf.if 0 : i8 {\nscf.yield 0\n} {\nscf.yield 4\n}" + ret, "0 [0 0 0 0 0] 62, 0 [0 0 1 0 0] 62"},
		{"scf.if 0 : i8 index {\nscf.yield 4 2\n} {\nscf.yield 2 4\n}" + ret, "0 [0 0 0 0 0] 62"},
		{"scf.if 0 : i8 {\nscf.yield\nscf.yield 4\nscf.yield 2\n} {\nscf.yield 2\n}" + ret, "0 [0 0 0 0 0] 61, 0 [0 0 0 0 1] 62"},
		{"scf.if 0 : i8 {\nscf.cond 0 4 4\nscf.yield 2\n} {\nscf.yield 2\n}" + ret, "0 [0 0 0 0 0] 64"},
		// More than one block, and other numbers of regions.
		{"scf.if 0 {\ntoy.go ^1\n^\nscf.yield\n} {\nscf.yield\n}" + ret, "0 [0 0] 61, 0 [0 0 0 0 0] 64"},
		{"scf.if 0 {\nscf.yield\n^\nscf.yield 2\n} {\nscf.yield\n}" + ret, "0 [0 0] 61, 0 [0 0 0 1 0] 61"},
		{"scf.if 0 : i8 {\nscf.yield\n}" + ret, "0 [0 0] 61, 0 [0 0 0 0 0] 61"},
		{"scf.if 0 : i8" + ret, "0 [0 0] 61"},
		{"scf.if 0 : i8 {\nscf.yield 2\n} {\nscf.yield 2\n} {\nscf.yield\n}" + ret, "0 [0 0] 61"},
		{"scf.if 0 : i8 {\nscf.yield 2\n} {\nscf.yield 2\n} {\nscf.cond 0 0\n}" + ret, "0 [0 0] 61"},
		{"scf.if 0 : i8 {\nscf.yield 2\n} {\nscf.yield 2\n} {\ntoy.end\n}" + ret, "0 [0 0] 61"},
		{"scf.if 0 : i8 {\nscf.yield 2\n} {\nscf.yield 2\n} {\nfunc.return\n}" + ret, "0 [0 0] 61, 0 [0 0 2 0 0] 64"},
	})
}

func TestFor(t *testing.T) {
	expectInside(t, []wrong{
		{"scf.for 4 5 step=1 { index\nscf.yield\n}" + ret, ""},
		{"scf.for 4 5 2 0 : i8 i1 step=2 { index i8 i1\nscf.yield 13 14\n}\ntoy.use 10 11" + ret, ""},
		{"scf.for 4 5 6 7 8 : mem<4xi8> arr<2x3xi8> !toy.t step=2 { index mem<4xi8> arr<2x3xi8> !toy.t\nscf.yield 14 15 16\n}" + ret, ""},
		{"scf.for 4 step=1 { index\nscf.yield\n}" + ret, "0 [0 0] 61"},
		{"scf.for 4 2 step=1 { index\nscf.yield\n}" + ret, "0 [0 0] 62"},
		{"scf.for 4 5 { index\nscf.yield\n}" + ret, "0 [0 0] 61"},
		// Operands and results.
		{"scf.for 4 5 2 step=1 { index\nscf.yield\n}" + ret, "0 [0 0] 61"},
		{"scf.for 4 5 : i8 step=1 { index i8\nscf.yield 12\n}" + ret, "0 [0 0] 61"},
		{"scf.for 4 5 2 : i1 step=1 { index i1\nscf.yield 12\n}" + ret, "0 [0 0] 62"},
		{"scf.for 4 5 2 0 : i1 i8 step=1 { index i1 i8\nscf.yield 13 14\n}" + ret, "0 [0 0] 62"},
		// Arguments of the region.
		{"scf.for 4 5 step=1 {\nscf.yield\n}" + ret, "0 [0 0] 61"},
		{"scf.for 4 5 step=1 { index index\nscf.yield\n}" + ret, "0 [0 0] 61"},
		{"scf.for 4 5 step=1 { i8\nscf.yield\n}" + ret, "0 [0 0] 62"},
		{"scf.for 4 5 2 : i8 step=1 { index\nscf.yield 2\n}" + ret, "0 [0 0] 61"},
		{"scf.for 4 5 2 : i8 step=1 { index i1\nscf.yield 2\n}" + ret, "0 [0 0] 62"},
		{"scf.for 4 5 2 : i8 step=1 { i8 index\nscf.yield 2\n}" + ret, "0 [0 0] 62"},
		// Ends.
		{"scf.for 4 5 2 : i8 step=1 { index i8\nscf.yield\n}" + ret, "0 [0 0 0 0 0] 61"},
		{"scf.for 4 5 2 : i8 step=1 { index i8\nscf.yield 11\n}" + ret, "0 [0 0 0 0 0] 62"},
		{"scf.for 4 5 2 : i8 step=1 { index i8\nscf.yield 11 12\n}" + ret, "0 [0 0 0 0 0] 61"},
		{"scf.for 4 5 step=1 { index\nscf.cond 0\n}" + ret, "0 [0 0 0 0 0] 64"},
		{"scf.for 4 5 step=1 { index\ntoy.end\n}" + ret, "0 [0 0 0 0 0] 64"},
		{"scf.for 4 5 step=1 { index\nfunc.return\n}" + ret, "0 [0 0 0 0 0] 64"},
		{"scf.for 4 5 step=1 { index\n}" + ret, "0 [0 0] 64"},
		{"scf.for 4 5 step=1 { index\ntoy.use 10\n}" + ret, "0 [0 0 0 0 0] 64"},
		// What is yielded has the types of the results, whatever the operands are.
		{"scf.for 4 5 2 2 : i1 step=1 { index i1\nscf.yield 12\n}" + ret, "0 [0 0] 61"},
		// Another number of regions.
		{"scf.for 4 5 step=1" + ret, "0 [0 0] 61"},
		{"scf.for 4 5 step=1 { index\nscf.yield\n} {\nscf.yield 2\n}" + ret, "0 [0 0] 61"},
		{"scf.for 4 5 step=1 { index\nscf.yield\n} {\nscf.cond 0\n}" + ret, "0 [0 0] 61"},
	})
	for _, c := range []struct {
		step int64
		ok   bool
	}{{1, true}, {2, true}, {1<<31 - 1, true}, {1 << 31, false}, {0, false}, {-1, false}, {1<<32 + 1, false}, {math.MaxInt64, false}, {math.MinInt64, false}} {
		expect(t, inside(fmt.Sprint("scf.for 4 5 step=", c.step, " { index\nscf.yield\n}", ret)), unless(c.ok, "0 [0 0] 62"))
	}
	// Wrong numbers come before wrong steps.
	expect(t, inside("scf.for 4 5 step=0 {\nscf.yield\n}"+ret), "0 [0 0] 61")
	expect(t, inside("scf.for 4 5 2 step=0 { index\nscf.yield\n}"+ret), "0 [0 0] 61")
}

func TestWhile(t *testing.T) {
	expectInside(t, []wrong{
		{"scf.while {\nscf.cond 0\n} {\nscf.yield\n}" + ret, ""},
		{"scf.while 2 : i8 {  i8\nscf.cond 0 11\n} { i8\nscf.yield 12\n}\ntoy.use 10" + ret, ""},
		{"scf.while 2 4 : i1 { i8 index\nscf.cond 0 1\n} { i1\nscf.yield 2 4\n}" + ret, ""},
		{"scf.while : i8 !toy.t {\nscf.cond 0 2 8\n} { i8 !toy.t\nscf.yield\n}" + ret, ""},
		// Arguments of the regions.
		{"scf.while 2 : i8 {\nscf.cond 0 2\n} { i8\nscf.yield 2\n}" + ret, "0 [0 0] 61"},
		{"scf.while 2 : i8 { i8 i8\nscf.cond 0 2\n} { i8\nscf.yield 2\n}" + ret, "0 [0 0] 61"},
		{"scf.while 2 : i8 { i1\nscf.cond 0 2\n} { i8\nscf.yield 2\n}" + ret, "0 [0 0] 62"},
		{"scf.while 2 : i8 { i8\nscf.cond 0 2\n} {\nscf.yield 2\n}" + ret, "0 [0 0] 61"},
		{"scf.while 2 : i8 { i1\nscf.cond 0 2\n} { i8 i8\nscf.yield 2\n}" + ret, "0 [0 0] 61"},
		{"scf.while 2 : i8 { i8\nscf.cond 0 2\n} { i1\nscf.yield 2\n}" + ret, "0 [0 0] 62"},
		{"scf.while 2 : i1 { i1\nscf.cond 0 1\n} { i8\nscf.yield 2\n}" + ret, "0 [0 0] 62"},
		// Ends.
		{"scf.while {\nscf.yield\n} {\nscf.cond 0\n}" + ret, "0 [0 0 0 0 0] 64, 0 [0 0 1 0 0] 64"},
		{"scf.while {\nscf.yield 2 2\n} {\nscf.cond 0 2 2\n}" + ret, "0 [0 0 0 0 0] 64, 0 [0 0 1 0 0] 64"},
		{"scf.while {\nscf.cond 2\n} {\nscf.yield\n}" + ret, "0 [0 0 0 0 0] 62"},
		{"scf.while {\nscf.cond\n} {\nscf.yield\n}" + ret, "0 [0 0 0 0 0] 61"},
		{"scf.while {\nscf.cond 0 0\n} {\nscf.yield 0\n}" + ret, "0 [0 0 0 0 0] 61, 0 [0 0 1 0 0] 61"},
		{"scf.while {\nscf.cond 2 0\n} {\nscf.yield\n}" + ret, "0 [0 0 0 0 0] 61"},
		{"scf.while 2 : i8 { i8\nscf.cond 0\n} { i8\nscf.yield\n}" + ret, "0 [0 0 0 0 0] 61, 0 [0 0 1 0 0] 61"},
		{"scf.while 2 : i1 { i8\nscf.cond 0 2\n} { i1\nscf.yield 0\n}" + ret, "0 [0 0 0 0 0] 62, 0 [0 0 1 0 0] 62"},
		{"scf.while {\ntoy.end\n} {\ntoy.end\n}" + ret, "0 [0 0 0 0 0] 64, 0 [0 0 1 0 0] 64"},
		{"scf.while {\n} {\nscf.yield\n}" + ret, "0 [0 0] 64"},
		{"scf.while {\nscf.cond 0\n} {\n}" + ret, "0 [0 0] 64"},
		// Not at the end.
		{"scf.while {\nscf.cond 0 0\nscf.cond 0\nscf.cond 0\n} {\nscf.yield 0\nscf.yield\n}" + ret, "0 [0 0 0 0 0] 61, 0 [0 0 0 0 1] 64, 0 [0 0 1 0 0] 61"},
		{"scf.while {\nscf.yield 0\nscf.cond 0\n} {\nscf.cond 0 0\nscf.yield\n}" + ret, "0 [0 0 0 0 0] 64, 0 [0 0 1 0 0] 64"},
		// Another number of regions.
		{"scf.while {\nscf.cond 0\n}" + ret, "0 [0 0] 61"},
		{"scf.while {\nscf.cond 0\n} {\nscf.yield\n} {\nscf.yield 2\n}" + ret, "0 [0 0] 61"},
		{"scf.while {\nscf.cond 0\n} {\nscf.yield\n} {\nscf.cond 0 2\n}" + ret, "0 [0 0] 61"},
	})
}

// Regions of other operations end as they like, but not with branches or returns.
func TestOtherRegions(t *testing.T) {
	expectInside(t, []wrong{
		{"toy.around {\nscf.yield 0 2\n}\ntoy.around {\nscf.cond 0 2\n}\ntoy.around { i8 i8\ntoy.end 10 11\n}" + ret, ""},
		{"toy.around {\nscf.cond 2\n}" + ret, "0 [0 0 0 0 0] 62"},
		{"toy.around {\nscf.cond\n}" + ret, "0 [0 0 0 0 0] 61"},
		{"toy.blocks {\nscf.yield\n^\nscf.cond 0\n} {\ntoy.go ^1\n^\nscf.yield 2\n}" + ret, ""},
		{"toy.around {\n}" + ret, "0 [0 0] 64"},
		{"toy.blocks {\ntoy.end\n^\n} {\ntoy.end\n}" + ret, "0 [0 0] 64"},
		{"toy.blocks {\ntoy.end\n} {\ntoy.end\n^\n}" + ret, "0 [0 0] 64"},
		{"toy.around {\ntoy.use\n}" + ret, "0 [0 0 0 0 0] 64"},
		{"toy.around {\ntoy.end\ntoy.use\ntoy.end\n}" + ret, "0 [0 0 0 0 0] 64"},
		{"toy.around {\nscf.yield\ntoy.end\n}" + ret, "0 [0 0 0 0 0] 64"},
		{"arith.add 2 3 : i8 {\nscf.yield 2\n}" + ret, "0 [0 0] 61"},
		{"no.such {\nscf.cond 0 2\n} {\nscf.yield 2\n} {\nfunc.return\n}" + ret, "0 [0 0] 60, 0 [0 0 2 0 0] 64"},
		{"func.func name=@g results=(i8) {\nscf.yield\n^\nscf.cond 0\n}" + ret, "0 [0 0] 60"},
		{"toy.around {\nfunc.func name=@g results=(i8) {\nscf.yield\n^\nfunc.return\n}\ntoy.end\n}" + ret, "0 [0 0 0 0 0] 60, 0 [0 0 0 0 0 0 1 0] 64"},
		// The last operation of a body with a region.
		{"toy.last {\ntoy.end\n}", ""},
		{"toy.last {\ntoy.end\n}" + ret, "0 [0 0] 64"},
		{"toy.around {\ntoy.end\n}", "0 [0 0] 64"},
		// An operation of the innermost of several regions.
		{"scf.if 0 : i8 {\nscf.for 4 5 2 : i8 step=1 { index i8\nscf.while 13 : i8 { i8\nscf.cond 0 15\n} { i8\ntoy.around {\nscf.yield\n}\nscf.yield 16\n}\nscf.yield 14\n}\nscf.yield 11\n} {\nscf.yield 3\n}" + ret, ""},
		{"scf.if 0 : i8 {\nscf.for 4 5 2 : i8 step=1 { index i8\nscf.while 13 : i8 { i8\nscf.cond 0 15\n} { i8\ntoy.around {\ntoy.use\n}\nscf.yield 0\n}\nscf.yield 14\n}\nscf.yield 11\n} {\nscf.yield 3\n}" + ret, "0 [0 0 0 0 0 0 0 0 1 0 0 0 0 0] 64, 0 [0 0 0 0 0 0 0 0 1 0 1] 62"},
	})
}

// Values that are not visible, as operands and as arguments of successors.
func TestErrOrder(t *testing.T) {
	expectInside(t, []wrong{
		{"toy.use 10\narith.add 2 3 : i8" + ret, "0 [0 0] 63"},
		{"arith.add 10 2 : i8" + ret, "0 [0 0] 63"},
		{"arith.add 2 3 : i8\ntoy.use 10" + ret, ""},
		{"toy.use 0 0 10\nzoo.ant : i8" + ret, "0 [0 0] 63"},
		// Out of regions, into them, and from one into another one.
		{"toy.around : i8 {\ntoy.use 10\ntoy.end\n}" + ret, "0 [0 0 0 0 0] 63"},
		{"toy.around {\nzoo.ant : i8\ntoy.end\n}\ntoy.use 10" + ret, "0 [0 1] 63"},
		{"toy.around { i8\ntoy.end\n}\ntoy.use 10" + ret, "0 [0 1] 63"},
		{"zoo.ant : i8\ntoy.around {\ntoy.around {\ntoy.use 10\ntoy.end\n}\ntoy.end\n}" + ret, ""},
		{"toy.around {\ntoy.around {\ntoy.use 10\ntoy.end\n}\ntoy.end\n}\nzoo.ant : i8" + ret, "0 [0 0 0 0 0 0 0 0] 63"},
		{"scf.if 0 : i8 {\nzoo.ant : i8\nscf.yield 11\n} {\nscf.yield 11\n}" + ret, "0 [0 0 1 0 0] 63"},
		{"toy.around {\ntoy.around { i8\ntoy.end 10\n}\ntoy.end 10\n}" + ret, "0 [0 0 0 0 1] 63"},
		// Blocks that dominate others, and that do not.
		{"cf.cond 0 ^1 ^2\n^\nzoo.ant : i8\ncf.br ^3\n^\ntoy.use 10\ncf.br ^3\n^\ntoy.use 10" + ret, "0 [2 0] 63, 0 [3 0] 63"},
		{"zoo.ant : i8\ncf.cond 0 ^1 ^2\n^ \ncf.br ^3 10\n^\ncf.br ^3 10\n^ i8\ntoy.use 10 11" + ret, ""},
		{"cf.br ^2\n^\ntoy.use 10" + ret + "\n^\nzoo.ant : i8\ncf.br ^1", ""},
		{"cf.cond 0 ^1 ^2\n^\ntoy.use 10" + ret + "\n^\nzoo.ant : i8\ncf.br ^1", "0 [1 0] 63"},
		{"cf.br ^1\n^\ncf.cond 0 ^1 ^2\n^ \ntoy.around {\ntoy.use 10\ntoy.end\n}\nzoo.ant : i8\ncf.br ^1", "0 [2 0 0 0 0] 63"},
		{"cf.br ^1\n^ i8\ncf.cond 0 ^1 10 ^2\n^\ntoy.use 10" + ret, "0 [0 0] 61"},
		{"cf.br ^1 2\n^ i8\ncf.cond 0 ^1 10 ^2\n^\ntoy.use 10" + ret, ""},
		// Arguments of successors: after wrong types, and of the block itself.
		{"cf.br ^1 10\n^ i8\ncf.br ^1 10", "0 [0 0] 63"},
		{"cf.br ^1 10\n^ i1" + ret + "\n^ i8\ncf.br ^1 0", "0 [0 0] 63"},
		{"cf.br ^1 10\n^ i1\ncf.br ^1 11\n^ i8\ncf.br ^1 11", "0 [0 0] 63, 0 [1 0] 62, 0 [2 0] 62"},
		{"toy.go : i8 ^1 10\n^ i8" + ret, "0 [0 0] 63"},
		{"cf.cond 0 ^1 2 ^1 10\n^ i8" + ret, "0 [0 0] 63"},
		{"cf.cond 10 ^1 ^1\n^ i1" + ret, "0 [0 0] 61"},
		{"cf.cond 10 ^1 0 ^1 0\n^ i1" + ret, "0 [0 0] 63"},
		// Blocks that are not reachable see all of their region, and what is visible around it, but nothing inside of others.
		{"zoo.ant : i8" + ret + "\n^\ntoy.use 10 11 12\nzoo.ant : i8 i8" + ret, ""},
		{ret + "\n^\ntoy.use 10" + ret + "\n^ i8" + ret, ""},
		{ret + "\n^\ntoy.around : i8 {\ntoy.use 10\ntoy.end\n}" + ret, ""},
		{ret + "\n^\ntoy.around {\ntoy.use 10\nzoo.ant : i8\ntoy.end\n}" + ret, "0 [1 0 0 0 0] 63"},
		{ret + "\n^\ntoy.use 10\ntoy.around { i8\ntoy.end\n}" + ret, "0 [1 0] 63"},
		{"toy.use 10" + ret + "\n^\nzoo.ant : i8\ncf.br ^2\n^\ncf.br ^1", "0 [0 0] 63"},
		{"cf.br ^2\n^\nzoo.ant : i8\ncf.br ^2\n^\ntoy.use 10" + ret, "0 [2 0] 63"},
		// Inside of operations of other dialects.
		{"toy.blocks {\ntoy.fork ^1 ^2\n^\nzoo.ant : i8\ntoy.go ^2\n^\ntoy.end 10\n} {\ntoy.end 10\n}" + ret, "0 [0 0 0 2 0] 63, 0 [0 0 1 0 0] 63"},
		{"toy.blocks {\ntoy.end\n^\ntoy.use 10 11\ntoy.end\n^ i8\nzoo.ant : i8\ntoy.end\n} {\ntoy.end\n}" + ret, ""},
		// Successors of operations that do not end their block lead nowhere: block 1 is not reachable.
		{"cf.br ^1" + ret + "\n^\ntoy.use 10\nzoo.ant : i8" + ret, "0 [0 0] 64"},
	})
}

func TestErrEnd(t *testing.T) {
	expectInside(t, []wrong{
		{ret, ""},
		{"toy.use", "0 [0 0] 64"},
		{ret + ret, "0 [0 0] 64"},
		{ret + "\ntoy.use", "0 [0 0] 64, 0 [0 1] 64"},
		{"toy.end\ntoy.end\ntoy.end", "0 [0 0] 64, 0 [0 1] 64"},
		{"cf.br ^1\ncf.br ^1\n^" + ret, "0 [0 0] 64"},
		{"cf.trap code=16" + ret, "0 [0 0] 64"},
		{"arith.const value=1 : i8", "0 [0 0] 64"},
		{"scf.if 0 {\nscf.yield\n} {\nscf.yield\n}", "0 [0 0] 64"},
		{"cf.br ^1\n^\ntoy.use\n^\ntoy.use" + ret, "0 [1 0] 64"},
		// All other errors but ErrSymbol come before.
		{"arith.const value=200 : i8", "0 [0 0] 62"},
		{"toy.use 10\nzoo.ant : i8", "0 [0 0] 63, 0 [0 1] 64"},
		{"func.call callee=@no", "0 [0 0] 64"},
		{"func.call callee=@no" + ret, "0 [0 0] 65"},
		{"toy.end 10\nzoo.ant : i8" + ret, "0 [0 0] 63"},
	})
}

func TestErrSymbol(t *testing.T) {
	const end = "\nfunc.return\n}\n"
	for _, c := range []wrong{
		{"fn f -> {" + end + "fn g -> {" + end + "fn h -> {" + end, ""},
		{"fn f -> {" + end + "fn g -> {" + end + "fn f -> {" + end, "2 [] 65"},
		{"fn f -> {" + end + "fn f -> {" + end + "fn f -> {" + end, "1 [] 65, 2 [] 65"},
		{"fn f -> {" + end + "fn f -> i8 { i8\nfunc.return 0\n}", "1 [] 65"},
		{"fn f -> {\n}\nfn f -> {\n}", "0 [] 64, 1 [] 64"},
		// Calls: of others before and behind, of itself, of none.
		{"fn f -> i8 { i8 i1\nfunc.call 0 1 callee=@f : i8\nfunc.return 2\n}", ""},
		{"fn f -> {\nfunc.call callee=@g\nfunc.return\n}\nfn g -> {\nfunc.call callee=@f\nfunc.return\n}", ""},
		{"fn f -> {\nfunc.call callee=@g\nfunc.return\n}", "0 [0 0] 65"},
		{"fn f -> { i8 i8\nfunc.call 0 1 callee=@f : i8\nfunc.return\n}", "0 [0 0] 65"},
		{"fn f -> { i8 i8\nfunc.call 0 callee=@f\nfunc.return\n}", "0 [0 0] 65"},
		{"fn f -> { i8 i8\nfunc.call 0 1 0 callee=@f\nfunc.return\n}", "0 [0 0] 65"},
		{"fn f -> { i8 i1\nfunc.call 1 0 callee=@f\nfunc.return\n}", "0 [0 0] 65"},
		{"fn f -> i8 { i8\nfunc.call 0 callee=@f\nfunc.return 0\n}", "0 [0 0] 65"},
		{"fn f -> i8 { i8\nfunc.call 0 callee=@f : i1\nfunc.return 0\n}", "0 [0 0] 65"},
		{"fn f -> i8 i1 { i8 i1\nfunc.call 0 1 callee=@f : i1 i8\nfunc.return 0 1\n}", "0 [0 0] 65"},
		// The first one that has the name decides.
		{"fn g -> { i8" + end + "fn g -> {" + end + "fn f -> { i8\nfunc.call 0 callee=@g\nfunc.call callee=@g" + end, "1 [] 65, 2 [0 1] 65"},
		// The arguments of the entry alone are those of the function.
		{"fn f -> { i8\ncf.br ^1 0\n^ i8\nfunc.call 1 callee=@g\nfunc.return\n}\nfn g -> { i8\ncf.br ^1\n^" + end, ""},
		// What is called may be wrong.
		{"fn f -> {\nfunc.call callee=@g\nfunc.return\n}\nfn g -> {\n}", "1 [] 64"},
		// Inside of other operations.
		{"fn f -> { i1\ntoy.around {\nfunc.call callee=@f\nfunc.call 0 callee=@f\ntoy.end\n}" + end, "0 [0 0 0 0 0] 65"},
		// Names that are none of functions, as they are no attributes that functions have.
		{"func.func name=g results=() {" + end + "fn f -> {\nfunc.call callee=@g" + end, "0 [] 61, 1 [0 0] 65"},
		{"func.func name=g results=() {" + end + "fn g -> {" + end + "fn f -> {\nfunc.call callee=@g" + end, "0 [] 61"},
		{"func.func results=() {" + end + "func.func results=() {" + end, "0 [] 61, 1 [] 61"},
		// A name with which another attribute is written.
		{"fn f -> {" + end + "func.func name=@g results=() x_f=@f {" + end, ""},
	} {
		expect(t, c.text, c.faults)
	}
}
