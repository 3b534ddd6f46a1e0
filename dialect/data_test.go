package dialect_test

import (
	"fmt"
	"math/rand/v2"
	"regexp"
	"slices"
	"strconv"
	"strings"

	"demotic/api"
	"demotic/dialect"
)

// Data and a second reading of the definitions, which the tests of several promises use.

// said is what values look like, with blanks between them.
func said(l ...any) string {
	return strings.TrimSuffix(fmt.Sprintln(l...), "\n")
}

// table is the one of the chapter, with what stands below it of the results of three operations.
const table = `
| func.func | | | name Symbol, results Types | 1 | 0 | blocks |
| func.call | any* | any* | callee Symbol | 0 | 0 | calls, prints, reads, traps, writes |
| func.return | any* | | | 0 | 0 | end |
| arith.const | | num* | value Int | 0 | 0 | pure |
| arith.add, and, mul, or, xor | a:num, a | a | | 0 | 0 | commutes, pure |
| arith.sub, shl, shrs, shru | a:num, a | a | | 0 | 0 | pure |
| arith.divs, divu, rems, remu | a:num, a | a | | 0 | 0 | traps |
| arith.cmp | a:num, a | i1 | pred Text | 0 | 0 | pure |
| arith.select | i1, a:any, a | a | | 0 | 0 | pure |
| arith.exts, extu, trunc | a:int | num* | | 0 | 0 | pure |
| arith.cast | a:num | num* | | 0 | 0 | pure |
| cf.br | | | | 0 | 1 | end |
| cf.cond | i1 | | | 0 | 2 | end |
| cf.trap | | | code Int | 0 | 0 | end, traps |
| scf.if | i1 | any* | | 2 | 0 | |
| scf.for | index, index, any* | any* | step Int | 1 | 0 | |
| scf.while | any* | any* | | 2 | 0 | |
| scf.cond | i1, any* | | | 0 | 0 | end |
| scf.yield | any* | | | 0 | 0 | end |
| mem.alloc | | any* | | 0 | 0 | writes |
| mem.load | m:mem, index^m | elem m | | 0 | 0 | reads, traps |
| mem.store | m:mem, elem m, index^m | | | 0 | 0 | traps, writes |
| mem.copy | m:mem, m | | | 0 | 0 | reads, writes |
| arr.splat | a:num | any* | | 0 | 0 | pure |
| arr.get | t:arr, index^t | elem t | | 0 | 0 | traps |
| arr.set | t:arr, elem t, index^t | t | | 0 | 0 | traps |
| io.print | a:num | | | 0 | 0 | prints |
`

var kindNames = map[string]api.Kind{"Int": api.Int, "Text": api.Text, "Symbol": api.Symbol, "Types": api.Types}

// words are what stands between commas.
func words(s string) []string {
	if s = strings.TrimSpace(s); s == "" {
		return nil
	}
	return strings.Split(s, ", ")
}

// coreByTable are the descriptions of the core operations, by their names, as the table has them.
func coreByTable() map[string]dialect.Def {
	all := map[string]dialect.Def{}
	for row := range strings.Lines(strings.TrimSpace(table)) {
		c := strings.Split(row, "|")
		prefix, names, _ := strings.Cut(strings.TrimSpace(c[1]), ".")
		for _, name := range words(names) {
			d := dialect.Def{Name: name, In: words(c[2]), Out: words(c[3]), Traits: words(c[7])}
			for _, need := range words(c[4]) {
				name, kind, _ := strings.Cut(need, " ")
				d.Attrs = append(d.Attrs, dialect.Need{Name: name, Kind: kindNames[kind]})
			}
			d.Regions, _ = strconv.Atoi(strings.TrimSpace(c[5]))
			d.Succs, _ = strconv.Atoi(strings.TrimSpace(c[6]))
			all[prefix+"."+name] = d
		}
	}
	return all
}

// coreNames are those of the core dialects.
var coreNames = []string{"arith", "arr", "cf", "func", "io", "mem", "scf"}

// traits are those that there are; the first five are effects.
var traits = []string{"calls", "prints", "reads", "traps", "writes", "blocks", "commutes", "end", "pure"}

// typed are types of all kinds, and what one needs to know of them.
var typed = []struct {
	text, kind, element, turned string
	rank                        int
}{
	{"i1", "int", "", "", 0},
	{"i8", "int", "", "", 0},
	{"i64", "int", "", "", 0},
	{"index", "num", "", "", 0},
	{"mem<i8>", "mem", "i8", "arr<i8>", 0},
	{"mem<4xi8>", "mem", "i8", "arr<4xi8>", 1},
	{"mem<4x3xindex>", "mem", "index", "arr<4x3xindex>", 2},
	{"arr<0x0x0xi8>", "arr", "i8", "mem<0x0x0xi8>", 3},
	{"arr<4xi8>", "arr", "i8", "mem<4xi8>", 1},
	{"arr<index>", "arr", "index", "mem<index>", 0},
	{"!a.b", "any", "", "", 0},
	// Those that others turn to.
	{"mem<index>", "mem", "index", "arr<index>", 0},
	{"mem<0x0x0xi8>", "mem", "i8", "arr<0x0x0xi8>", 3},
	{"arr<i8>", "arr", "i8", "mem<i8>", 0},
	{"arr<4x3xindex>", "arr", "index", "mem<4x3xindex>", 2},
}

func isType(t string) bool {
	for _, x := range typed {
		if x.text == t {
			return true
		}
	}
	return false
}

// suits tells whether a type is one of those of a word.
func suits(t, word string) bool {
	for _, x := range typed {
		if x.text == t {
			return word == "any" || word == x.kind || word == "num" && x.kind == "int"
		}
	}
	return false
}

func rank(t string) int {
	for _, x := range typed {
		if x.text == t {
			return x.rank
		}
	}
	return 0
}

var (
	binds   = regexp.MustCompile(`\A([a-z]):(int|num|mem|arr|any)\z`)
	stands  = regexp.MustCompile(`\A([a-z])\z`)
	changes = regexp.MustCompile(`\A(elem|turn) ([a-z])\z`)
	indexes = regexp.MustCompile(`\Aindex\^([a-z])\z`)
	rests   = regexp.MustCompile(`\A(any|num)\*\z`)
	name    = regexp.MustCompile(`\A[a-z][a-z0-9_]*\z`)
)

// listsAreRight is a second reading of when lists of rules are.
func listsAreRight(in, out []string) bool {
	bound := map[string]string{}
	for k, l := range [][]string{in, out} {
		if len(l) > 10 {
			return false
		}
		for i, r := range l {
			b, s, c, x := binds.FindStringSubmatch(r), stands.FindStringSubmatch(r), changes.FindStringSubmatch(r), indexes.FindStringSubmatch(r)
			switch {
			case b != nil:
				if k == 1 || bound[b[1]] != "" {
					return false
				}
				bound[b[1]] = b[2]
			case s != nil:
				if bound[s[1]] == "" {
					return false
				}
			case c != nil:
				if bound[c[2]] != "mem" && bound[c[2]] != "arr" {
					return false
				}
			case x != nil:
				if k == 1 || bound[x[1]] != "mem" && bound[x[1]] != "arr" {
					return false
				}
			case rests.MatchString(r):
				if i != len(l)-1 {
					return false
				}
			default:
				if !isType(r) {
					return false
				}
			}
		}
	}
	return true
}

// splits are all ways to give so many types to rules: how many each one gets.
func splits(rules []string, types int) [][]int {
	if len(rules) == 0 {
		if types == 0 {
			return [][]int{nil}
		}
		return nil
	}
	low, high := 1, 1
	if rests.MatchString(rules[0]) {
		low, high = 0, types
	}
	if indexes.MatchString(rules[0]) {
		low, high = 0, 3
	}
	var l [][]int
	for n := low; n <= min(high, types); n++ {
		for _, more := range splits(rules[1:], types-n) {
			l = append(l, append([]int{n}, more...))
		}
	}
	return l
}

// allowed is the way to give types to rules, if there is one.
func allowed(rules, types []string) ([]int, bool) {
	var l [][]int
	for _, way := range splits(rules, len(types)) {
		at, means, ok := 0, map[string]string{}, true
		for i, r := range rules {
			if b := binds.FindStringSubmatch(r); b != nil {
				means[b[1]] = types[at]
			}
			if x := indexes.FindStringSubmatch(r); x != nil && way[i] != rank(means[x[1]]) {
				ok = false
			}
			at += way[i]
		}
		if ok {
			l = append(l, way)
		}
	}
	if len(l) > 1 {
		panic("several ways")
	}
	return append(l, nil)[0], len(l) > 0
}

// fit tells whether types fit rules, and adds what variables mean.
func fit(rules, types []string, means map[string]string) bool {
	way, _ := allowed(rules, types)
	at := 0
	for i, r := range rules {
		for range way[i] {
			t := types[at]
			at++
			if b := binds.FindStringSubmatch(r); b != nil {
				means[b[1]] = t
				if !suits(t, b[2]) {
					return false
				}
			} else if x := rests.FindStringSubmatch(r); x != nil {
				if !suits(t, x[1]) {
					return false
				}
			} else if t != only(r, means) {
				return false
			}
		}
	}
	return true
}

// only is the type that a rule asks for, when it is known what variables mean.
func only(r string, means map[string]string) string {
	if s := stands.FindStringSubmatch(r); s != nil {
		return means[s[1]]
	}
	if indexes.MatchString(r) {
		return "index"
	}
	if c := changes.FindStringSubmatch(r); c != nil {
		for _, x := range typed {
			if x.text == means[c[2]] && c[1] == "elem" {
				return x.element
			}
			if x.text == means[c[2]] {
				return x.turned
			}
		}
	}
	return r
}

func readMatch(d dialect.Def, in, out []string) api.Errno {
	_, ok1 := allowed(d.In, in)
	_, ok2 := allowed(d.Out, out)
	if !ok1 || !ok2 {
		return api.ErrShape
	}
	means := map[string]string{}
	if !fit(d.In, in, means) || !fit(d.Out, out, means) {
		return api.ErrTypes
	}
	return api.OK
}

func readInfer(d dialect.Def, in []string) ([]string, api.Errno) {
	if e := readMatch(dialect.Def{In: d.In}, in, nil); e != api.OK {
		return nil, e
	}
	means := map[string]string{}
	fit(d.In, in, means)
	var out []string
	for _, r := range d.Out {
		if rests.MatchString(r) {
			return nil, api.ErrArg
		}
		out = append(out, only(r, means))
	}
	return out, api.OK
}

// isRight is a second reading of when a description is.
func isRight(d dialect.Def) bool {
	if !isName(d.Name) || !listsAreRight(d.In, d.Out) || len(d.Attrs) > 10 || d.Regions < 0 || d.Regions > 3 || d.Succs < 0 || d.Succs > 4 {
		return false
	}
	for i, n := range d.Attrs {
		if !isName(n.Name) || n.Kind < 0 || n.Kind > 5 || i > 0 && d.Attrs[i-1].Name >= n.Name {
			return false
		}
	}
	has := map[string]bool{}
	for i, x := range d.Traits {
		if !slices.Contains(traits, x) || i > 0 && d.Traits[i-1] >= x {
			return false
		}
		has[x] = true
	}
	if has["pure"] && (has["traps"] || has["reads"] || has["writes"] || has["prints"] || has["calls"]) || d.Succs > 0 && !has["end"] {
		return false
	}
	if !has["commutes"] {
		return true
	}
	return len(d.In) > 1 && binds.MatchString(d.In[0]) && d.In[1] == d.In[0][:1]
}

func isName(s string) bool { return len(s) <= api.MaxName && name.MatchString(s) }

// definitionsOf are all descriptions, by the names of their operations.
func definitionsOf(l []dialect.Dialect) map[string]dialect.Def {
	all := coreByTable()
	for _, x := range l {
		for _, d := range x.Ops {
			all[x.Name+"."+d.Name] = d
		}
	}
	return all
}

// within are an operation and all that are inside of it.
func within(o api.Op) []api.Op {
	l := []api.Op{o}
	for _, r := range o.Regions {
		for _, b := range r.Blocks {
			for _, x := range b.Ops {
				l = append(l, within(x)...)
			}
		}
	}
	return l
}

// readEffects is a second reading of what an operation may do.
func readEffects(l []dialect.Dialect, o api.Op) ([]string, api.Errno) {
	all := definitionsOf(l)
	var found []string
	for _, x := range within(o) {
		d, ok := all[x.Name]
		if !ok {
			return nil, api.ErrNone
		}
		found = append(found, d.Traits...)
		if len(x.Regions) > 0 && x.Name != "scf.if" && x.Name != "func.func" {
			found = append(found, "traps")
		}
	}
	found = slices.DeleteFunc(found, func(s string) bool { return !slices.Contains(traits[:5], s) })
	slices.Sort(found)
	found = slices.Compact(found)
	if len(found) == 0 || o.Name == "func.func" {
		found = []string{"pure"}
	}
	return found, api.OK
}

// others are right dialects with all that descriptions may have.
func others() []dialect.Dialect {
	return []dialect.Dialect{
		{Name: "alone"},
		{Name: "t", Types: []string{"a", "a_", "b9"}, Ops: []dialect.Def{
			{Name: "block", Regions: 3, Traits: []string{"blocks", "pure"}},
			{Name: "go", In: []string{"any*"}, Succs: 4, Traits: []string{"calls", "end"}},
			{Name: "keep", In: []string{"v:any", "v"}, Out: []string{"v", "i8", "num*"}, Traits: []string{"commutes", "prints"}},
			{Name: "many", Attrs: []dialect.Need{{Name: "a", Kind: api.Int}, {Name: "b", Kind: api.Types}, {Name: "x_c", Kind: api.Text}}},
			{Name: "turn", In: []string{"m:mem", "index^m", "k:arr", "turn k", "index^k", "num*"}, Out: []string{"turn m", "elem k", "m"}, Traits: []string{"reads", "writes"}},
			{Name: "work", In: []string{"a:int", "a"}, Out: []string{"a"}, Regions: 1, Traits: []string{"commutes", "pure"}},
		}},
		{Name: "zz_9", Types: []string{"x"}, Ops: []dialect.Def{{Name: "a", Out: []string{"!zz_9.x"}}}},
	}
}

func definition(l []dialect.Dialect, name string) dialect.Def { return definitionsOf(l)[name] }

// ranTree makes operations inside of operations from a sequence of random numbers.
func ranTree(r *rand.Rand, names []string, depth int) api.Op {
	o := api.Op{Name: names[r.IntN(len(names))]}
	if depth == 0 {
		return o
	}
	for range r.IntN(3) {
		var region api.Region
		for range r.IntN(3) {
			var b api.Block
			for range r.IntN(3) {
				b.Ops = append(b.Ops, ranTree(r, names, depth-1))
			}
			region.Blocks = append(region.Blocks, b)
		}
		o.Regions = append(o.Regions, region)
	}
	return o
}
