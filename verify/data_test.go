package verify_test

import (
	"fmt"
	"slices"
	"strconv"
	"strings"
	"testing"

	"demotic/api"
	"demotic/dialect"
	"demotic/verify"
)

// Data that the tests of several promises use.

// said is what values look like, with blanks between them.
func said(l ...any) string {
	return strings.TrimSuffix(fmt.Sprintln(l...), "\n")
}

// others are dialects with operations of many shapes.
func others() []dialect.Dialect {
	return []dialect.Dialect{
		{Name: "toy", Types: []string{"s", "t"}, Ops: []dialect.Def{
			{Name: "around", In: words("any*"), Out: words("any*"), Regions: 1},
			{Name: "blocks", In: words("any*"), Out: words("any*"), Regions: 2, Traits: words("blocks")},
			{Name: "both", In: words("a:any a"), Out: words("a"), Traits: words("commutes pure")},
			{Name: "end", In: words("any*"), Traits: words("end")},
			{Name: "fork", In: words("any*"), Succs: 2, Traits: words("end")},
			{Name: "go", Out: words("any*"), Succs: 1, Traits: words("end")},
			{Name: "last", Regions: 1, Traits: words("end")},
			{Name: "make", Out: words("!toy.t")},
			{Name: "noted", Attrs: []dialect.Need{{Name: "n", Kind: api.Int}, {Name: "t", Kind: api.Type}}},
			{Name: "turn", In: words("a:mem"), Out: []string{"turn a"}},
			{Name: "use", In: words("any*"), Traits: words("prints")},
		}},
		{Name: "zoo", Types: []string{"u"}, Ops: []dialect.Def{{Name: "ant", Out: words("any*")}}},
	}
}

func words(s string) []string { return strings.Fields(s) }

// reader reads modules from lines of words:
//
//	fn f -> i32 { i8 i64        a function, the types of its results, and those of its arguments
//	toy.fork 0 1 ^1 0 ^2        an operation, its operands, and its successors with their arguments
//	^ i8                        a block behind others, and the types of its arguments
//	scf.for 0 0 : i8 step=1 {   an operation with results, an attribute, and a region
//	} { i8                      its next region, and the types of its arguments
//	}                           the end of its last one
type reader struct{ lines []string }

func read(text string) api.Module {
	r := &reader{}
	for line := range strings.Lines(text) {
		if line = strings.TrimSpace(line); line != "" {
			r.lines = append(r.lines, line)
		}
	}
	var m api.Module
	for len(r.lines) > 0 {
		w := r.line()
		if w[0] == "fn" {
			results := w[3:slices.Index(w, "{")]
			w = slices.Concat([]string{"func.func", "name=@" + w[1], "results=(" + strings.Join(results, ",") + ")"}, w[slices.Index(w, "{"):])
		}
		m.Ops = append(m.Ops, r.operation(w))
	}
	return m
}

func (r *reader) line() []string {
	w := words(r.lines[0])
	r.lines = r.lines[1:]
	return w
}

func (r *reader) operation(w []string) api.Op {
	o := api.Op{Name: w[0]}
	for i, s := range w[1:] {
		name, value, isAttribute := strings.Cut(s, "=")
		switch n, err := strconv.Atoi(s); {
		case s == "{":
			o.Regions = r.regions(w[i+2:])
		case s == ":":
		case s[0] == '^':
			n, _ := strconv.Atoi(s[1:])
			o.Succs = append(o.Succs, api.Succ{Block: n})
		case isAttribute:
			o.Attrs = append(o.Attrs, attribute(name, value))
		case err != nil:
			o.Results = append(o.Results, s)
		case len(o.Succs) > 0:
			last := &o.Succs[len(o.Succs)-1]
			last.Args = append(last.Args, n)
		default:
			o.Operands = append(o.Operands, n)
		}
		if s == "{" {
			break
		}
	}
	slices.SortFunc(o.Attrs, func(a, b api.Attr) int { return strings.Compare(a.Name, b.Name) })
	return o
}

// attribute is a number, a list of types, the name of a function, a type (with a colon before it), or else a string.
func attribute(name, value string) api.Attr {
	n, err := strconv.ParseInt(value, 10, 64)
	switch {
	case err == nil:
		return api.Attr{Name: name, Kind: api.Int, Int: n}
	case value[0] == '(':
		types := strings.FieldsFunc(value, func(c rune) bool { return strings.ContainsRune("(),", c) })
		return api.Attr{Name: name, Kind: api.Types, Texts: types}
	case value[0] == '@':
		return api.Attr{Name: name, Kind: api.Symbol, Text: value[1:]}
	case value[0] == ':':
		return api.Attr{Name: name, Kind: api.Type, Text: value[1:]}
	}
	return api.Attr{Name: name, Kind: api.Text, Text: value}
}

// regions reads regions up to the line that ends the last one; the first one has these arguments.
func (r *reader) regions(args []string) []api.Region {
	var l []api.Region
	blocks := []api.Block{{Args: args}}
	for {
		w := r.line()
		switch {
		case w[0] == "^":
			blocks = append(blocks, api.Block{Args: w[1:]})
		case w[0] == "}":
			l = append(l, api.Region{Blocks: blocks})
			if len(w) == 1 {
				return l
			}
			blocks = []api.Block{{Args: w[2:]}}
		default:
			b := &blocks[len(blocks)-1]
			b.Ops = append(b.Ops, r.operation(w))
		}
	}
}

// inside is the text of a function whose arguments are 0, 1: i1; 2, 3: i8; 4, 5: index; 6: mem<4xi8>; 7: arr<2x3xi8>; 8: !toy.t; 9: i32; the next value is 10. It begins with these lines.
func inside(lines string) string {
	return "fn f -> { i1 i1 i8 i8 index index mem<4xi8> arr<2x3xi8> !toy.t i32\n" + lines + "\n}"
}

// everyFault has all calls say what is wrong with a module, after holding them against each other (P6.1 and P6.3).
func everyFault(t *testing.T, m api.Module, l []dialect.Dialect) []verify.Fault {
	t.Helper()
	all, e := verify.All(m, l)
	if e != api.OK {
		t.Fatalf("All of %s: %d", said(m), e)
	}
	var first verify.Fault
	if len(all) > 0 {
		first = all[0]
	}
	if e := verify.Check(m, l); e != first.Errno {
		t.Errorf("Check of %s: %d, but All: %v", said(m), e, all)
	}
	f, path, e := verify.Where(m, l)
	if f != first.F || !slices.Equal(path, first.Path) || e != first.Errno {
		t.Errorf("Where of %s: %d %v %d, but All: %v", said(m), f, path, e, all)
	}
	for f := range m.Ops {
		want := api.OK
		if i := slices.IndexFunc(all, func(x verify.Fault) bool { return x.F == f }); i >= 0 {
			want = all[i].Errno
		}
		if e := verify.Function(m, l, f); e != want {
			t.Errorf("Function of %s, %d: %d, but All: %v", said(m), f, e, all)
		}
	}
	if len(l) == 0 {
		is, e := verify.IsCore(m)
		if is != (len(all) == 0) || e != api.OK {
			t.Errorf("IsCore of %s: %v %d, but All: %v", said(m), is, e, all)
		}
	}
	return all
}
