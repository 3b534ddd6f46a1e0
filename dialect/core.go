package dialect

import "demotic/api"

// The names of operations whose regions say more about what they may do.
const (
	functionName = "func.func"
	choiceName   = "scf.if"
)

// coreNames returns the names of the core dialects, rising.
func coreNames() []string {
	return list("arith", "arr", "cf", "func", "io", "mem", "scf")
}

// coreDialect returns the core dialect with a name. The tables of the others are not made, as most calls look up one operation.
func coreDialect(name string) (Dialect, bool) {
	var ops []Def
	switch name {
	case "arith":
		ops = arithTable()
	case "arr":
		ops = arrTable()
	case "cf":
		ops = cfTable()
	case "func":
		ops = funcTable()
	case "io":
		ops = ioTable()
	case "mem":
		ops = memTable()
	case "scf":
		ops = scfTable()
	default:
		return Dialect{}, false
	}
	return Dialect{Name: name, Ops: ops}, true
}

// list returns a list in new memory, as tables are handed out.
func list(s ...string) []string { return s }

func arithTable() []Def {
	return []Def{
		{Name: "add", In: list("a:num", "a"), Out: list("a"), Traits: list(commutes, pure)},
		{Name: "and", In: list("a:num", "a"), Out: list("a"), Traits: list(commutes, pure)},
		{Name: "cast", In: list("a:num"), Out: list("num*"), Traits: list(pure)},
		{Name: "cmp", In: list("a:num", "a"), Out: list("i1"), Attrs: []Need{{"pred", api.Text}}, Traits: list(pure)},
		{Name: "const", Out: list("num*"), Attrs: []Need{{"value", api.Int}}, Traits: list(pure)},
		{Name: "divs", In: list("a:num", "a"), Out: list("a"), Traits: list(traps)},
		{Name: "divu", In: list("a:num", "a"), Out: list("a"), Traits: list(traps)},
		{Name: "exts", In: list("a:int"), Out: list("num*"), Traits: list(pure)},
		{Name: "extu", In: list("a:int"), Out: list("num*"), Traits: list(pure)},
		{Name: "mul", In: list("a:num", "a"), Out: list("a"), Traits: list(commutes, pure)},
		{Name: "or", In: list("a:num", "a"), Out: list("a"), Traits: list(commutes, pure)},
		{Name: "rems", In: list("a:num", "a"), Out: list("a"), Traits: list(traps)},
		{Name: "remu", In: list("a:num", "a"), Out: list("a"), Traits: list(traps)},
		{Name: "select", In: list("i1", "a:any", "a"), Out: list("a"), Traits: list(pure)},
		{Name: "shl", In: list("a:num", "a"), Out: list("a"), Traits: list(pure)},
		{Name: "shrs", In: list("a:num", "a"), Out: list("a"), Traits: list(pure)},
		{Name: "shru", In: list("a:num", "a"), Out: list("a"), Traits: list(pure)},
		{Name: "sub", In: list("a:num", "a"), Out: list("a"), Traits: list(pure)},
		{Name: "trunc", In: list("a:int"), Out: list("num*"), Traits: list(pure)},
		{Name: "xor", In: list("a:num", "a"), Out: list("a"), Traits: list(commutes, pure)},
	}
}

func arrTable() []Def {
	return []Def{
		{Name: "get", In: list("t:arr", "index^t"), Out: list("elem t"), Traits: list(traps)},
		{Name: "set", In: list("t:arr", "elem t", "index^t"), Out: list("t"), Traits: list(traps)},
		{Name: "splat", In: list("a:num"), Out: list("any*"), Traits: list(pure)},
	}
}

func cfTable() []Def {
	return []Def{
		{Name: "br", Succs: 1, Traits: list(end)},
		{Name: "cond", In: list("i1"), Succs: 2, Traits: list(end)},
		{Name: "trap", Attrs: []Need{{"code", api.Int}}, Traits: list(end, traps)},
	}
}

func funcTable() []Def {
	return []Def{
		{Name: "call", In: list("any*"), Out: list("any*"), Attrs: []Need{{"callee", api.Symbol}}, Traits: list(calls, prints, reads, traps, writes)},
		{Name: "func", Attrs: []Need{{"name", api.Symbol}, {"results", api.Types}}, Regions: 1, Traits: list(blocks)},
		{Name: "return", In: list("any*"), Traits: list(end)},
	}
}

func ioTable() []Def {
	return []Def{{Name: "print", In: list("a:num"), Traits: list(prints)}}
}

func memTable() []Def {
	return []Def{
		{Name: "alloc", Out: list("any*"), Traits: list(writes)},
		{Name: "copy", In: list("m:mem", "m"), Traits: list(reads, writes)},
		{Name: "load", In: list("m:mem", "index^m"), Out: list("elem m"), Traits: list(reads, traps)},
		{Name: "store", In: list("m:mem", "elem m", "index^m"), Traits: list(traps, writes)},
	}
}

func scfTable() []Def {
	return []Def{
		{Name: "cond", In: list("i1", "any*"), Traits: list(end)},
		{Name: "for", In: list("index", "index", "any*"), Out: list("any*"), Attrs: []Need{{"step", api.Int}}, Regions: 1},
		{Name: "if", In: list("i1"), Out: list("any*"), Regions: 2},
		{Name: "while", In: list("any*"), Out: list("any*"), Regions: 2},
		{Name: "yield", In: list("any*"), Traits: list(end)},
	}
}
