package verify_test

import (
	"math/big"
	"slices"
	"strconv"
	"strings"

	"demotic/api"
	"demotic/dialect"
	"demotic/flow"
	"demotic/ir"
	"demotic/types"
	"demotic/verify"
)

// A second reading of the chapter: each error of the table is a question about an operation at a path.

// place is an operation of a module.
type place struct {
	m      api.Module
	l      []dialect.Dialect
	f      int
	path   []int
	op     api.Op
	values []string // the types of the function's values
	outer  *place   // the operation in whose region it is; nil of a function
	region int      // the number of that region
	isLast bool     // of its block
}

// placesOf are the operations of a function, in the order of its text.
func placesOf(m api.Module, l []dialect.Dialect, f int) []*place {
	values, _ := ir.Values(m, f)
	root := &place{m: m, l: l, f: f, op: m.Ops[f], values: values}
	all := []*place{root}
	var visit func(outer *place)
	visit = func(outer *place) {
		for k, r := range outer.op.Regions {
			for n, b := range r.Blocks {
				for i, o := range b.Ops {
					x := *root
					x.path = slices.Clone(outer.path)
					if outer != root {
						x.path = append(x.path, k)
					}
					x.path = append(x.path, n, i)
					x.op, x.outer, x.region, x.isLast = o, outer, k, i == len(b.Ops)-1
					all = append(all, &x)
					visit(&x)
				}
			}
		}
	}
	visit(root)
	return all
}

// faultsOf are the faults of a module as the second reading has them.
func faultsOf(m api.Module, l []dialect.Dialect) []verify.Fault {
	var all []verify.Fault
	for f := range m.Ops {
		for _, x := range placesOf(m, l, f) {
			if e := x.errno(); e != api.OK {
				all = append(all, verify.Fault{F: f, Path: x.path, Errno: e})
			}
		}
	}
	return all
}

func (x *place) errno() api.Errno {
	for _, line := range []struct {
		e   api.Errno
		has func() bool
	}{
		{api.ErrOp, x.isUnknown},
		{api.ErrShape, x.hasWrongShape},
		{api.ErrTypes, x.hasWrongTypes},
		{api.ErrOrder, x.usesHidden},
		{api.ErrEnd, x.endsWrongly},
		{api.ErrSymbol, x.isMisnamed},
	} {
		if line.has() {
			return line.e
		}
	}
	return api.OK
}

func (x *place) isFunction() bool { return x.outer == nil }

func (x *place) isUnknown() bool {
	_, e := dialect.Find(x.l, x.op.Name)
	return e != api.OK || x.op.Name == "func.func" && !x.isFunction()
}

// inBody tells whether it is in a block of the body of a function of the module.
func (x *place) inBody() bool { return len(x.path) == 2 }

// typesOf are the types of values.
func (x *place) typesOf(numbers []int) []string {
	var l []string
	for _, v := range numbers {
		l = append(l, x.values[v])
	}
	return l
}

func (x *place) in() []string { return x.typesOf(x.op.Operands) }

func (x *place) attribute(name string) api.Attr {
	for _, a := range x.op.Attrs {
		if a.Name == name {
			return a
		}
	}
	return api.Attr{}
}

func (x *place) match() api.Errno {
	d, _ := dialect.Find(x.l, x.op.Name)
	return dialect.Match(d, x.in(), x.op.Results)
}

// pair has types that are wanted beside those that there are.
type pair struct{ got, want []string }

// pairs are all types that have to be as others are.
func (x *place) pairs() []pair {
	var l []pair
	results := x.op.Results
	entry := func(region int) []string { return x.op.Regions[region].Blocks[0].Args }
	switch x.op.Name {
	case "scf.if":
		l = append(l, pair{entry(0), nil}, pair{entry(1), nil})
	case "scf.for":
		l = append(l, pair{x.in()[2:], results}, pair{entry(0), slices.Concat([]string{"index"}, results)})
	case "scf.while":
		l = append(l, pair{entry(0), x.in()}, pair{entry(1), results})
	case "scf.yield", "scf.cond", "func.return":
		outer := x.outer
		switch x.op.Name + " " + outer.op.Name + " " + strconv.Itoa(x.region) {
		case "scf.yield scf.if 0", "scf.yield scf.if 1", "scf.yield scf.for 0":
			l = append(l, pair{x.in(), outer.op.Results})
		case "scf.yield scf.while 1":
			l = append(l, pair{x.in(), outer.in()})
		case "scf.cond scf.while 0":
			l = append(l, pair{x.in(), slices.Concat([]string{"i1"}, outer.op.Results)})
		case "func.return func.func 0":
			if outer.isFunction() {
				l = append(l, pair{x.in(), outer.attribute("results").Texts})
			}
		}
	}
	for _, s := range x.op.Succs {
		l = append(l, pair{x.typesOf(s.Args), x.outer.op.Regions[x.region].Blocks[s.Block].Args})
	}
	return l
}

func (x *place) hasWrongShape() bool {
	d, _ := dialect.Find(x.l, x.op.Name)
	if dialect.Fits(d, x.op) != api.OK || x.match() == api.ErrShape {
		return true
	}
	switch x.op.Name {
	case "arith.const", "arith.exts", "arith.extu", "arith.trunc", "arith.cast", "mem.alloc", "arr.splat":
		if len(x.op.Results) != 1 {
			return true
		}
	}
	if slices.ContainsFunc(x.op.Succs, func(s api.Succ) bool { return s.Block == 0 }) {
		return true
	}
	return slices.ContainsFunc(x.pairs(), func(p pair) bool { return len(p.got) != len(p.want) })
}

// isForeign tells whether a type is one that no dialect has.
func (x *place) isForeign(t string) bool {
	if t[0] != '!' {
		return false
	}
	for _, d := range x.l {
		for _, own := range d.Types {
			if t == "!"+d.Name+"."+own {
				return false
			}
		}
	}
	return true
}

func (x *place) hasWrongTypes() bool {
	own := slices.Concat(x.in(), x.op.Results)
	for _, r := range x.op.Regions {
		for _, b := range r.Blocks {
			own = append(own, b.Args...)
		}
	}
	if x.isFunction() {
		own = append(own, x.attribute("results").Texts...)
	}
	return slices.ContainsFunc(own, x.isForeign) ||
		x.match() == api.ErrTypes ||
		x.isOddArithmetic() ||
		slices.ContainsFunc(x.pairs(), func(p pair) bool { return !slices.Equal(p.got, p.want) })
}

// bitsOf is the number of an integer type; 0 of another one.
func bitsOf(t string) int {
	number, isNumber := strings.CutPrefix(t, "i")
	n, err := strconv.Atoi(number)
	if !isNumber || err != nil {
		return 0
	}
	return n
}

func isBetween(n, low, high int64) bool { return low <= n && n <= high }

// isOddArithmetic tells whether the types of one operation, or its attributes, are not as its row says.
func (x *place) isOddArithmetic() bool {
	t, from := "", ""
	if len(x.op.Results) == 1 {
		t = x.op.Results[0]
	}
	if len(x.op.Operands) == 1 {
		from = x.in()[0]
	}
	switch x.op.Name {
	case "arith.const":
		n := big.NewInt(x.attribute("value").Int)
		bits := bitsOf(t)
		if t == "index" {
			bits = 64
		}
		half := new(big.Int).Lsh(big.NewInt(1), uint(max(bits, 1)-1))
		return bits == 0 || n.Cmp(half) >= 0 || n.Cmp(new(big.Int).Neg(half)) < 0
	case "arith.cmp":
		return !slices.Contains(words("eq ne slt sle sgt sge ult ule ugt uge"), x.attribute("pred").Text)
	case "arith.exts", "arith.extu":
		return bitsOf(t) <= bitsOf(from)
	case "arith.trunc":
		return bitsOf(t) == 0 || bitsOf(t) >= bitsOf(from)
	case "arith.cast":
		return t != from && (t == "index") == (from == "index")
	case "mem.alloc":
		return !strings.HasPrefix(t, "mem<")
	case "arr.splat":
		element, _ := types.Element(t)
		return !strings.HasPrefix(t, "arr<") || element != from
	case "cf.trap":
		return !isBetween(x.attribute("code").Int, 16, 1<<31-1)
	case "scf.for":
		return !isBetween(x.attribute("step").Int, 1, 1<<31-1)
	}
	return false
}

func (x *place) usesHidden() bool {
	uses := slices.Clone(x.op.Operands)
	for _, s := range x.op.Succs {
		uses = append(uses, s.Args...)
	}
	return slices.ContainsFunc(uses, func(v int) bool {
		is, e := flow.Visible(api.Module{Ops: x.m.Ops[x.f : x.f+1]}, 0, v, x.path)
		return !is || e != api.OK
	})
}

func (x *place) endsWrongly() bool {
	for _, r := range x.op.Regions {
		if slices.ContainsFunc(r.Blocks, func(b api.Block) bool { return len(b.Ops) == 0 }) {
			return true
		}
	}
	if x.isFunction() {
		return false
	}
	d, _ := dialect.Find(x.l, x.op.Name)
	if x.isLast != slices.Contains(d.Traits, "end") {
		return true
	}
	if slices.Contains(words("func.return cf.br cf.cond cf.trap"), x.op.Name) && !x.inBody() {
		return true
	}
	if !x.isLast {
		return false
	}
	switch x.outer.op.Name + " " + strconv.Itoa(x.region) {
	case "scf.if 0", "scf.if 1", "scf.for 0", "scf.while 1":
		return x.op.Name != "scf.yield"
	case "scf.while 0":
		return x.op.Name != "scf.cond"
	}
	return x.inBody() && (x.op.Name == "scf.yield" || x.op.Name == "scf.cond")
}

func (x *place) isMisnamed() bool {
	switch x.op.Name {
	case "func.func":
		return x.named(x.attribute("name").Text) != x.f
	case "func.call":
		f := x.named(x.attribute("callee").Text)
		if f < 0 {
			return true
		}
		called := place{op: x.m.Ops[f]}
		return !slices.Equal(called.op.Regions[0].Blocks[0].Args, x.in()) || !slices.Equal(called.attribute("results").Texts, x.op.Results)
	}
	return false
}

// named is the first function with a name; -1 if there is none.
func (x *place) named(name string) int {
	return slices.IndexFunc(x.m.Ops, func(o api.Op) bool {
		a := (&place{op: o}).attribute("name")
		return a.Kind == api.Symbol && a.Text == name
	})
}
