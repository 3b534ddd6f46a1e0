package dialect

import (
	"slices"

	"demotic/api"
	"demotic/attrs"
)

const (
	maxRules    = 10
	maxNeeds    = 10
	maxRegions  = 3
	maxSuccs    = 4
	maxTypes    = 20
	maxOps      = 60
	maxDialects = 10

	indexType = "index"
)

// The traits.
const (
	blocks   = "blocks"
	calls    = "calls"
	commutes = "commutes"
	end      = "end"
	prints   = "prints"
	pure     = "pure"
	reads    = "reads"
	traps    = "traps"
	writes   = "writes"
)

// effects returns the traits that an operation with the trait pure does not have, rising.
func effects() []string { return list(calls, prints, reads, traps, writes) }

func allTraits() []string { return append(effects(), blocks, commutes, end, pure) }

func isRightList(l []Dialect) bool {
	if len(l) > maxDialects || !areRising(l, nameOfDialect) {
		return false
	}
	for _, d := range l {
		if slices.Contains(coreNames(), d.Name) || !isRightDialect(d) {
			return false
		}
	}
	return true
}

func isRightDialect(d Dialect) bool {
	if !isName(d.Name) || len(d.Types) > maxTypes || len(d.Ops) > maxOps {
		return false
	}
	for _, t := range d.Types {
		if !isName(t) {
			return false
		}
	}
	for _, op := range d.Ops {
		if !isRight(op) {
			return false
		}
	}
	return areRising(d.Types, itself) && areRising(d.Ops, nameOfDef)
}

func isRight(d Def) bool {
	_, ok := described(d)
	return ok
}

// described returns the signature of a description, if it is right.
func described(d Def) (signature, bool) {
	if !isName(d.Name) || !areRightNeeds(d.Attrs) || d.Regions < 0 || d.Regions > maxRegions || d.Succs < 0 || d.Succs > maxSuccs {
		return signature{}, false
	}
	s, ok := signed(d)
	if !ok || !areRightTraits(d.Traits) {
		return signature{}, false
	}
	if d.Succs > 0 && !slices.Contains(d.Traits, end) || slices.Contains(d.Traits, commutes) && !isExchangeable(s.in) {
		return signature{}, false
	}
	return s, true
}

func areRightNeeds(l []Need) bool {
	if len(l) > maxNeeds || !areRising(l, nameOfNeed) {
		return false
	}
	for _, n := range l {
		if !isName(n.Name) || n.Kind < api.Int || n.Kind > api.Types {
			return false
		}
	}
	return true
}

func areRightTraits(l []string) bool {
	if !areRising(l, itself) {
		return false
	}
	for _, t := range l {
		if !slices.Contains(allTraits(), t) {
			return false
		}
	}
	return !slices.Contains(l, pure) || !hasAny(l, effects()...)
}

// hasAny tells whether a list has one of some traits.
func hasAny(l []string, some ...string) bool {
	for _, t := range some {
		if slices.Contains(l, t) {
			return true
		}
	}
	return false
}

// isExchangeable tells whether the first two operands have to be of one type that is free.
func isExchangeable(in []rule) bool {
	return len(in) >= 2 && in[0].sort == binding && in[1] == rule{sort: same, variable: in[0].variable}
}

// isName asks package attrs, which takes names just as the document says.
func isName(s string) bool {
	return attrs.Check([]api.Attr{{Name: s}}) == api.OK
}

func nameOfDialect(d Dialect) string { return d.Name }

func nameOfDef(d Def) string { return d.Name }

func nameOfNeed(n Need) string { return n.Name }

func itself(s string) string { return s }

// areRising tells whether the names of the elements of a list rise, each once.
func areRising[E any](l []E, name func(E) string) bool {
	for i := range l {
		if i > 0 && name(l[i-1]) >= name(l[i]) {
			return false
		}
	}
	return true
}
