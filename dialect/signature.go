package dialect

import (
	"demotic/api"
	"demotic/types"
)

// signature is what a description says of the types of operands and results.
type signature struct{ in, out []rule }

// signed reads the lists of rules of a description, and tells whether they are right.
func signed(d Def) (signature, bool) {
	if len(d.In) > maxRules || len(d.Out) > maxRules {
		return signature{}, false
	}
	s := signature{readRules(d.In), readRules(d.Out)}
	bound := map[rune]class{}
	if !areRight(s.in, bound) || !areRight(s.out, bound) {
		return signature{}, false
	}
	for _, r := range s.out {
		if r.sort == binding || r.sort == positions {
			return signature{}, false
		}
	}
	return s, true
}

func readRules(l []string) []rule {
	var rules []rule
	for _, text := range l {
		rules = append(rules, readRule(text))
	}
	return rules
}

// areRight tells whether a list of rules is right after those that have bound variables to types of classes, and adds its own.
func areRight(rules []rule, bound map[rune]class) bool {
	for i, r := range rules {
		of, isBound := bound[r.variable]
		ok := r.sort != noRule
		switch r.sort {
		case binding:
			ok = !isBound
			bound[r.variable] = r.class
		case same:
			ok = isBound
		case element, turned, positions:
			ok = isBound && (of == memories || of == arrays)
		case anyNumber:
			ok = i == len(rules)-1
		}
		if !ok {
			return false
		}
	}
	return true
}

// opened returns the signature of a description, or ErrDialect, or ErrType if a string of the lists is not a type.
func opened(d Def, lists ...[]string) (signature, api.Errno) {
	s, ok := described(d)
	if !ok {
		return signature{}, api.ErrDialect
	}
	for _, l := range lists {
		for _, t := range l {
			if types.Check(t) != api.OK {
				return signature{}, api.ErrType
			}
		}
	}
	return s, api.OK
}

// variables has the types for which variables stand.
type variables map[rune]string

// spread returns, for each type of a list, the rule that it has to fit. It is not ok if the rules are for another number of types.
func spread(rules []rule, l []string) (each []rule, ok bool) {
	stands := variables{}
	for _, r := range rules {
		count := 1
		switch r.sort {
		case anyNumber:
			count = len(l) - len(each)
		case positions:
			// The rank of a type that has no shape is 0.
			count, _ = types.Rank(stands[r.variable])
		}
		if count > len(l)-len(each) {
			return nil, false
		}
		if r.sort == binding {
			stands[r.variable] = l[len(each)]
		}
		for range count {
			each = append(each, r)
		}
	}
	return each, len(each) == len(l)
}

// fit tells whether types fit their rules, one after the other, and keeps for what variables stand.
func (v variables) fit(rules []rule, l []string) bool {
	ok := true
search:
	for i, r := range rules {
		switch r.sort {
		case binding:
			v[r.variable] = l[i]
			fallthrough
		case anyNumber:
			if !isOf(l[i], r.class) {
				ok = false
				break search
			}
		default:
			if l[i] != v.only(r) {
				ok = false
				break search
			}
		}
	}
	return ok
}

// only returns the only type that fits a rule that is neither binding nor for any number of types.
func (v variables) only(r rule) string {
	text := r.text
	switch r.sort {
	case same:
		text = v[r.variable]
	case element:
		text, _ = types.Element(v[r.variable])
	case turned:
		text, _ = types.Turned(v[r.variable])
	case positions:
		text = indexType
	}
	return text
}

func isOf(t string, c class) bool {
	kind, _ := types.KindOf(t)
	switch c {
	case numeric:
		return kind == types.Integer || kind == types.Index
	case integers:
		return kind == types.Integer
	case memories:
		return kind == types.Memory
	case arrays:
		return kind == types.Array
	}
	return true
}
