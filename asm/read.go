package asm

import (
	"slices"
	"strings"

	"demotic/api"
	"demotic/attrs"
	"demotic/ir"
	"demotic/types"
)

// fault is what a reader panics with when it gives up: the number of the line in which something is wrong.
type fault int

func giveUp(t token) {
	panic(fault(t.line))
}

// read returns the module of a text, or with ErrText the line in which it is wrong.
func read(s string) (api.Module, int, api.Errno) {
	if len(s) > api.MaxText {
		return api.Module{}, 0, api.ErrLarge
	}
	m, line, e := attempt(s)
	if e == api.OK && ir.Check(m) != api.OK {
		return api.Module{}, 0, api.ErrForm
	}
	return m, line, e
}

// attempt reads a text whose module may have any form.
func attempt(s string) (m api.Module, line int, e api.Errno) {
	e = api.ErrText
	defer func() {
		if f, gaveUp := recover().(fault); gaveUp {
			line = int(f)
		}
	}()
	r := &reader{append(slices.Collect(tokens(s)), token{line: lines(s)})}
	// Names are looked at when all tokens are known to stand where they can: what they mean may come later.
	var l []api.Op
	for _, o := range r.functions() {
		l = append(l, function(o))
	}
	return api.Module{Ops: l}, 0, api.OK
}

// reader takes tokens from the front of what is left, the last of which is the end.
type reader struct {
	left []token
}

// next takes the next token, which must be such a one. No empty string may be: the end stays.
func (r *reader) next(fits func(string) bool) token {
	t := r.left[0]
	if !fits(t.text) {
		giveUp(t)
	}
	r.left = r.left[1:]
	return t
}

// one takes the next token, which must be one of these.
func (r *reader) one(wanted ...string) token {
	return r.next(func(s string) bool { return slices.Contains(wanted, s) })
}

// has takes the next token if it is this one.
func (r *reader) has(wanted string) bool {
	is := r.left[0].text == wanted
	if is {
		r.left = r.left[1:]
	}
	return is
}

func (r *reader) begins(sign string) bool {
	return strings.HasPrefix(r.left[0].text, sign)
}

// several takes at least one item, with commas between them, and what closes them.
func several[T any](r *reader, closing string, item func(*reader) T) []T {
	l := []T{item(r)}
	for r.one(",", closing).text != closing {
		l = append(l, item(r))
	}
	return l
}

// listed takes a list between round brackets, which may be empty.
func listed[T any](r *reader, item func(*reader) T) []T {
	r.one("(")
	if r.has(")") {
		return nil
	}
	return several(r, ")", item)
}

// functions takes all that there is.
func (r *reader) functions() []operation {
	var l []operation
	for len(r.left) > 1 {
		l = append(l, r.operation())
	}
	return l
}

func (r *reader) operation() operation {
	var o operation
	if r.begins("%") {
		o.results = several(r, "=", (*reader).value)
	}
	o.name = r.next(isQuoted)
	o.operands = listed(r, (*reader).value)
	if r.has("[") {
		o.succs = several(r, "]", (*reader).successor)
	}
	if r.has("{") {
		o.attrs = several(r, "}", (*reader).attribute)
	}
	if r.has("(") {
		o.regions = several(r, ")", (*reader).region)
	}
	r.one(":")
	o.takes = listed(r, (*reader).typeText)
	r.one(arrow)
	o.gives = listed(r, (*reader).typeText)
	return o
}

func (r *reader) successor() successor {
	s := successor{block: r.block()}
	if r.has("(") {
		s.args = several(r, ")", (*reader).value)
	}
	return s
}

func (r *reader) attribute() attribute {
	a := attribute{name: r.next(isAttributeName)}
	r.one("=")
	switch {
	case r.has("["):
		a.value = "[" + r.texts("]", isNumber) + "]"
	case r.has("("):
		a.value = "(" + r.texts(")", isType) + ")"
	default:
		a.value = r.next(isAttributeValue).text
	}
	return a
}

// texts takes the elements of the value of an attribute, which is a list, and what closes it.
func (r *reader) texts(closing string, fits func(string) bool) string {
	if r.has(closing) {
		return ""
	}
	l := several(r, closing, func(r *reader) string { return r.next(fits).text })
	return strings.Join(l, ", ")
}

func (r *reader) region() []block {
	var l []block
	r.one("{")
	for !r.has("}") {
		l = append(l, r.wholeBlock())
	}
	return l
}

func (r *reader) wholeBlock() block {
	b := block{name: r.block(), args: listed(r, (*reader).argument)}
	r.one(":")
	for !r.begins("^") && !r.begins("}") {
		b.ops = append(b.ops, r.operation())
	}
	return b
}

func (r *reader) argument() argument {
	name := r.value()
	r.one(":")
	return argument{name, r.typeText()}
}

func (r *reader) value() token { return r.next(isNamed("%")) }

func (r *reader) block() token { return r.next(isNamed("^")) }

func (r *reader) typeText() string { return r.next(isType).text }

func isQuoted(s string) bool { return strings.HasPrefix(s, `"`) }

// isNamed returns what tells whether a string is a name behind a sign.
func isNamed(sign string) func(string) bool {
	return func(s string) bool {
		name, signed := strings.CutPrefix(s, sign)
		return signed && name != "" && !strings.ContainsFunc(name, func(c rune) bool { return !isNamePart(c) })
	}
}

func isType(s string) bool { return types.Check(s) == api.OK }

func isAttributeName(s string) bool {
	_, e := attrs.Read(s, "0")
	return e == api.OK
}

func isAttributeValue(s string) bool {
	_, e := attrs.Read("a", s)
	return e == api.OK
}

func isNumber(s string) bool {
	a, e := attrs.Read("a", s)
	return e == api.OK && a.Kind == api.Int
}
