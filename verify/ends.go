package verify

import (
	"slices"

	"demotic/dialect"
)

// ending is what the blocks of a region end with: an operation and the types of its operands.
type ending struct {
	name     string
	operands []string
}

// endings returns how those regions of an operation end of which a row says it, from the first one on.
func (s *site) endings() []ending {
	yields := ending{yieldName, s.op.Results}
	switch s.op.Name {
	case ifName:
		return []ending{yields, yields}
	case forName:
		return []ending{yields}
	case whileName:
		return []ending{{condName, behind(truthType, s.op.Results)}, {yieldName, s.in}}
	}
	return nil
}

// wantedEnd returns how the region ends in which an operation stands, if a row says it.
func (s *site) wantedEnd() (ending, bool) {
	r := s.at.region
	l := r.owner.endings()
	if r.number >= len(l) {
		return ending{}, false
	}
	return l[r.number], true
}

// endsWell tells whether an operation ends its block just if it has to, and as it may there, and whether there is none in its regions without an end.
func (s *site) endsWell(d dialect.Def) bool {
	for _, r := range s.op.Regions {
		for _, b := range r.Blocks {
			if len(b.Ops) == 0 {
				return false
			}
		}
	}
	return s.isLast() == slices.Contains(d.Traits, "end") && s.mayStand() && s.mayEnd()
}

// mayStand tells whether an operation that belongs into bodies of functions, or into other regions, is in one.
func (s *site) mayStand() bool {
	switch s.op.Name {
	case returnName, "cf.br", "cf.cond", "cf.trap":
		return s.isInBody()
	case condName, yieldName:
		return !s.isInBody()
	}
	return true
}

// mayEnd tells whether an operation, if it is the last one of its block, ends it as the region wants it.
func (s *site) mayEnd() bool {
	if !s.isLast() {
		return true
	}
	wanted, isWanted := s.wantedEnd()
	return !isWanted || wanted.name == s.op.Name
}
