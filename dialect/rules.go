package dialect

import (
	"demotic/api"
	"demotic/types"
)

// sort says how a rule finds the types that fit it.
type sort int

const (
	noRule    sort = iota
	exactly        // one type
	binding        // a type of a class, for which a variable stands from then on
	same           // the type for which a variable stands
	element        // its element type
	turned         // the array type (memory type) of its shape
	positions      // as many indices as it has extents
	anyNumber      // any number of types of a class
)

// class is a set of types.
type class int

const (
	anything class = iota
	numeric
	integers
	memories
	arrays
)

// rule is what a string says of the types of operands or results. The zero value is that of a string that is no rule.
type rule struct {
	sort     sort
	class    class  // of binding and anyNumber
	variable rune   // of binding, same, element, turned and positions
	text     string // of exactly: the type
}

// frame is what stands around the variable of a rule.
type frame struct{ before, after string }

func readRule(text string) rule {
	if types.Check(text) == api.OK {
		return rule{sort: exactly, text: text}
	}
	f, variable := framed(text)
	if variable == 0 {
		return withoutVariable(text)
	}
	r := withVariable(f)
	if r == (rule{}) {
		return r
	}
	r.variable = variable
	return r
}

func withoutVariable(text string) rule {
	switch text {
	case "any*":
		return rule{sort: anyNumber, class: anything}
	case "num*":
		return rule{sort: anyNumber, class: numeric}
	}
	return rule{}
}

func withVariable(f frame) rule {
	switch f {
	case frame{"", ""}:
		return rule{sort: same}
	case frame{"elem ", ""}:
		return rule{sort: element}
	case frame{"turn ", ""}:
		return rule{sort: turned}
	case frame{"index^", ""}:
		return rule{sort: positions}
	case frame{"", ":int"}:
		return rule{sort: binding, class: integers}
	case frame{"", ":num"}:
		return rule{sort: binding, class: numeric}
	case frame{"", ":mem"}:
		return rule{sort: binding, class: memories}
	case frame{"", ":arr"}:
		return rule{sort: binding, class: arrays}
	case frame{"", ":any"}:
		return rule{sort: binding, class: anything}
	}
	return rule{}
}

// framed returns the first variable of a string, a small letter without another one beside it, and what stands around it; 0 if there is none.
func framed(text string) (frame, rune) {
	isLetter := func(at int) bool {
		return 0 <= at && at < len(text) && 'a' <= text[at] && text[at] <= 'z'
	}
	for at, c := range text {
		if isLetter(at) && !isLetter(at-1) && !isLetter(at+1) {
			return frame{text[:at], text[at+1:]}, c
		}
	}
	return frame{}, 0
}
