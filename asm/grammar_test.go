package asm_test

import (
	"regexp"
	"slices"
	"strconv"
	"strings"

	"demotic/api"
	"demotic/attrs"
	"demotic/ir"
	"demotic/types"
)

// A second reading of what a text is: patterns for tokens, a grammar that is read from the front by an algorithm of its own (Earley's), and, of what the grammar allows, the meaning of names.

// spot is a token, or what can't be one (an empty string), and the line in which it stands.
type spot struct {
	text string
	line int
}

var (
	gaps    = regexp.MustCompile(`^([ \n]|//[^\n]*)+`)
	quotes  = regexp.MustCompile(`^"(?s:[^"\\]|\\.)*"`)
	letters = regexp.MustCompile(`^[a-zA-Z0-9_.<>!%^@-]`)
	marks   = regexp.MustCompile(`^[()\[\]{},=:]`)
)

// spots are the tokens of a string, up to the first place where none begins.
func spots(s string) []spot {
	var l []spot
	line := 1
	skip := func(n int) {
		line += strings.Count(s[:n], "\n")
		s = s[n:]
	}
	for {
		skip(len(gaps.FindString(s)))
		if s == "" {
			return l
		}
		token := tokenAt(s)
		l = append(l, spot{token, line})
		if token == "" {
			return l
		}
		skip(len(token))
	}
}

func tokenAt(s string) string {
	if strings.HasPrefix(s, "->") {
		return "->"
	}
	if token := quotes.FindString(s) + marks.FindString(s); token != "" {
		return token
	}
	n := 0
	for letters.MatchString(s[n:]) && !strings.HasPrefix(s[n:], "->") {
		n++
	}
	return s[:n]
}

// isRight tells whether a string is a list of tokens.
func isRight(l []spot) bool { return len(l) == 0 || l[len(l)-1].text != "" }

func tokensOf(l []spot) []string {
	var s []string
	for _, x := range l {
		s = append(s, x.text)
	}
	return s
}

// grammar has what a text may be. Words in capitals are tokens of a kind.
const grammar = `
text:
text: text op
op: defs NAME ( values ) succs attrs regions : ( types ) -> ( types )
defs:
defs: values1 =
values:
values: values1
values1: VALUE
values1: values1 , VALUE
succs:
succs: [ succs1 ]
succs1: succ
succs1: succs1 , succ
succ: BLOCK
succ: BLOCK ( values1 )
attrs:
attrs: { attrs1 }
attrs1: attr
attrs1: attrs1 , attr
attr: KEY = SINGLE
attr: KEY = [ ]
attr: KEY = [ numbers1 ]
attr: KEY = ( types )
numbers1: NUMBER
numbers1: numbers1 , NUMBER
types:
types: types1
types1: TYPE
types1: types1 , TYPE
regions:
regions: ( regions1 )
regions1: region
regions1: regions1 , region
region: { blocks }
blocks:
blocks: blocks block
block: BLOCK ( args ) : ops
args:
args: args1
args1: VALUE : TYPE
args1: args1 , VALUE : TYPE
ops:
ops: ops op
`

var (
	isValue  = regexp.MustCompile(`^%[a-zA-Z0-9_]+$`)
	isBlock  = regexp.MustCompile(`^\^[a-zA-Z0-9_]+$`)
	isKey    = regexp.MustCompile(`^[a-z][a-z0-9_]{0,59}$`)
	isNumber = regexp.MustCompile(`^(0|-?[1-9][0-9]*)$`)
)

// fits tells whether a token is one of a kind.
func fits(kind, token string) bool {
	switch kind {
	case "NAME":
		return token != "" && token[0] == '"'
	case "VALUE":
		return isValue.MatchString(token)
	case "BLOCK":
		return isBlock.MatchString(token)
	case "KEY":
		return isKey.MatchString(token)
	case "NUMBER":
		_, err := strconv.ParseInt(token, 10, 64)
		return err == nil && isNumber.MatchString(token)
	case "TYPE":
		return types.Check(token) == api.OK
	case "SINGLE":
		_, e := attrs.Parse("{a = " + token + "}")
		return e == api.OK
	}
	return kind == token
}

type rule struct {
	name  string
	parts []string
}

func rules() map[string][]rule {
	all := map[string][]rule{}
	for line := range strings.Lines(grammar) {
		if name, parts, ok := strings.Cut(strings.TrimSpace(line), ":"); ok {
			all[name] = append(all[name], rule{name, words(parts)})
		}
	}
	return all
}

var ruleBook = rules()

// item is a rule that was read up to a part, from a token on.
type item struct {
	name string
	rule int
	done int
	from int
}

func (x item) next() string {
	parts := ruleBook[x.name][x.rule].parts
	if x.done == len(parts) {
		return ""
	}
	return parts[x.done]
}

func (x item) moved() item {
	x.done++
	return x
}

type state struct {
	list []item
	has  map[item]bool
}

func (s *state) add(x item) {
	if !s.has[x] {
		s.has[x] = true
		s.list = append(s.list, x)
	}
}

// readsUpTo returns how many tokens can stand where they do, and whether all of them are a text.
func readsUpTo(tokens []string) (int, bool) {
	states := []*state{{has: map[item]bool{}}}
	for i := range ruleBook["text"] {
		states[0].add(item{"text", i, 0, 0})
	}
	for at := 0; ; at++ {
		spread(states, at)
		if at == len(tokens) {
			whole := slices.ContainsFunc(states[at].list, func(x item) bool { return x.name == "text" && x.from == 0 && x.next() == "" })
			return at, whole
		}
		next := &state{has: map[item]bool{}}
		for _, x := range states[at].list {
			if kind := x.next(); kind != "" && ruleBook[kind] == nil && fits(kind, tokens[at]) {
				next.add(x.moved())
			}
		}
		if len(next.list) == 0 {
			return at, false
		}
		states = append(states, next)
	}
}

// spread adds all items that follow from those of a state.
func spread(states []*state, at int) {
	s := states[at]
	for before := -1; before < len(s.list); {
		before = len(s.list)
		for i := 0; i < len(s.list); i++ {
			x := s.list[i]
			kind := x.next()
			for n := range ruleBook[kind] {
				s.add(item{kind, n, 0, at})
			}
			if kind != "" {
				continue
			}
			for _, y := range slices.Clone(states[x.from].list) {
				if y.next() == x.name {
					s.add(y.moved())
				}
			}
		}
	}
}

// meaner reads tokens that the grammar allows.
type meaner struct {
	left   []string
	wrong  bool
	values map[string]int    // of the function
	types  map[string]string // of its values
	after  []func()          // what is done when the function has ended
}

func (r *meaner) take() string {
	s := r.left[0]
	r.left = r.left[1:]
	return s
}

// until reads things and what stands between them, up to a closing token.
func (r *meaner) until(closing string, item func()) {
	for r.left[0] != closing {
		item()
		if r.left[0] == "," {
			r.take()
		}
	}
	r.take()
}

func (r *meaner) words(closing string) []string {
	var l []string
	r.until(closing, func() { l = append(l, r.take()) })
	return l
}

// define notes a name twice as wrong.
func (r *meaner) define(name, t string) {
	if _, twice := r.values[name]; twice {
		r.wrong = true
	}
	r.values[name] = len(r.values)
	r.types[name] = t
}

// use has numbers put for names later.
func (r *meaner) use(l []string, put func(int)) {
	for _, name := range l {
		r.after = append(r.after, func() {
			n, ok := r.values[name]
			r.wrong = r.wrong || !ok
			put(n)
		})
	}
}

// meaning returns the module of a text that the grammar allows, or false.
func meaning(tokens []string) (api.Module, bool) {
	r := &meaner{left: tokens}
	var m api.Module
	for len(r.left) > 0 {
		r.values, r.types, r.after = map[string]int{}, map[string]string{}, nil
		o := r.operation(nil)
		for _, f := range r.after {
			f()
		}
		m.Ops = append(m.Ops, *o)
	}
	return m, !r.wrong
}

func (r *meaner) operation(blocks map[string]int) *api.Op {
	o := &api.Op{}
	var results []string
	if r.left[0][0] == '%' {
		results = r.words("=")
	}
	// The types of the results stand behind what is inside of the operation, and their numbers before it.
	ahead := resultTypes(r.left)
	r.wrong = r.wrong || len(ahead) != len(results)
	for i, name := range results {
		r.define(name, append(ahead, results...)[i])
	}
	o.Name = strings.TrimSuffix(r.take()[1:], `"`)
	r.take()
	operands := r.words(")")
	r.use(operands, func(n int) { o.Operands = append(o.Operands, n) })
	if r.left[0] == "[" {
		r.take()
		r.until("]", func() { r.successor(o, blocks) })
	}
	if r.left[0] == "{" {
		r.take()
		r.until("}", func() { r.attribute(o) })
	}
	if r.left[0] == "(" {
		r.take()
		r.until(")", func() { r.region(o) })
	}
	r.left = r.left[2:]
	takes := r.words(")")
	r.after = append(r.after, func() {
		var l []string
		for _, name := range operands {
			l = append(l, r.types[name])
		}
		r.wrong = r.wrong || !slices.Equal(l, takes)
	})
	r.left = r.left[2:]
	o.Results = r.words(")")
	return o
}

// resultTypes are those of the operation with whose name the tokens begin. The first arrow outside of its regions is its own.
func resultTypes(l []string) []string {
	depth := 0
	for i, s := range l {
		switch s {
		case "{":
			depth++
		case "}":
			depth--
		case "->":
			if depth == 0 {
				r := &meaner{left: l[i+2:]}
				return r.words(")")
			}
		}
	}
	return nil
}

func (r *meaner) successor(o *api.Op, blocks map[string]int) {
	name := r.take()
	i := len(o.Succs)
	o.Succs = append(o.Succs, api.Succ{})
	r.after = append(r.after, func() {
		n, ok := blocks[name]
		r.wrong = r.wrong || !ok
		o.Succs[i].Block = n
	})
	if r.left[0] == "(" {
		r.take()
		r.use(r.words(")"), func(n int) { o.Succs[i].Args = append(o.Succs[i].Args, n) })
	}
}

func (r *meaner) attribute(o *api.Op) {
	name := r.take()
	r.take()
	value := r.take()
	if closing := map[string]string{"[": "]", "(": ")"}[value]; closing != "" {
		value += strings.Join(r.words(closing), ", ") + closing
	}
	l, e := attrs.Parse("{" + name + " = " + value + "}")
	r.wrong = r.wrong || e != api.OK
	o.Attrs = append(o.Attrs, l...)
}

func (r *meaner) region(o *api.Op) {
	r.take()
	blocks := map[string]int{}
	at := len(o.Regions)
	o.Regions = append(o.Regions, api.Region{})
	for r.left[0] != "}" {
		name := r.take()
		if _, twice := blocks[name]; twice {
			r.wrong = true
		}
		blocks[name] = len(blocks)
		r.take()
		var b api.Block
		r.until(")", func() {
			name := r.take()
			r.take()
			t := r.take()
			r.define(name, t)
			b.Args = append(b.Args, t)
		})
		r.take()
		// Operands are put when the function has ended: blocks keep the operations for which that is done.
		var ops []*api.Op
		for r.left[0] != "}" && r.left[0][0] != '^' {
			ops = append(ops, r.operation(blocks))
		}
		i := len(o.Regions[at].Blocks)
		o.Regions[at].Blocks = append(o.Regions[at].Blocks, b)
		r.after = append(r.after, func() {
			for _, x := range ops {
				whole := &o.Regions[at].Blocks[i]
				whole.Ops = append(whole.Ops, *x)
			}
		})
	}
	r.take()
}

// verdict is what a second reading has for a string.
type verdict struct {
	m    api.Module
	line int // of the first token that can't stand where it does; 0 if all of them can, in a text
	e    api.Errno
}

func verdictOn(s string) verdict {
	if len(s) > api.MaxText {
		return verdict{e: api.ErrLarge}
	}
	l := spots(s)
	n, whole := readsUpTo(tokensOf(l))
	if n < len(l) {
		return verdict{line: l[n].line, e: api.ErrText}
	}
	if !whole {
		return verdict{line: len(slices.Collect(strings.Lines(s))), e: api.ErrText}
	}
	m, ok := meaning(tokensOf(l))
	if !ok {
		return verdict{e: api.ErrText}
	}
	if ir.Check(m) != api.OK {
		return verdict{e: api.ErrForm}
	}
	return verdict{m: m, e: api.OK}
}
