package ir

import (
	"strings"

	"demotic/api"
	"demotic/attrs"
	"demotic/types"
)

const functionName = "func.func"

// What is counted, by its place in counts.
const (
	functionCount = iota
	operationCount
	regionCount
	blockCount
	valueCount
)

type counts [5]int

func sum(parts ...counts) counts {
	var all counts
	for _, part := range parts {
		for i, n := range part {
			all[i] += n
		}
	}
	return all
}

// survey goes through data and counts what they have. Data may contain themselves, so that it has to give up at the first thing too many.
type survey struct {
	found   counts
	highest int // the highest number of a value that is used; -1 if none is
	room    int // how many operations there may be
}

// surveyed counts what a module has, and tells whether it has the right form.
func surveyed(m api.Module) (counts, bool) {
	var all counts
	for _, op := range m.Ops {
		s := survey{highest: -1, room: api.MaxOps - all[operationCount]}
		if !isFunction(op) || !s.operation(op, 0, 0) || s.highest >= s.found[valueCount] {
			return counts{}, false
		}
		all = sum(all, s.found, counts{functionCount: 1})
	}
	return all, true
}

func isFunction(op api.Op) bool {
	return op.Name == functionName && len(op.Operands) == 0 && len(op.Results) == 0 && len(op.Succs) == 0 && len(op.Regions) == 1
}

// operation takes an operation that stands in so many regions, the innermost of which has so many blocks.
func (s *survey) operation(op api.Op, depth, blocks int) bool {
	s.found = sum(s.found, counts{operationCount: 1, valueCount: len(op.Results)})
	if s.found[operationCount] > s.room || max(len(op.Results), len(op.Regions), len(op.Succs)) > api.MaxList {
		return false
	}
	if !isOperationName(op.Name) || !areTypes(op.Results) || attrs.Check(op.Attrs) != api.OK || !s.uses(op.Operands) {
		return false
	}
	for _, succ := range op.Succs {
		if !isIndex(succ.Block, blocks) || !s.uses(succ.Args) {
			return false
		}
	}
	for _, r := range op.Regions {
		if !s.region(r, depth+1) {
			return false
		}
	}
	return true
}

// region takes a region that is the innermost of so many.
func (s *survey) region(r api.Region, depth int) bool {
	blocks := len(r.Blocks)
	if depth > api.MaxDepth || blocks < 1 || blocks > api.MaxBlocks {
		return false
	}
	s.found = sum(s.found, counts{regionCount: 1, blockCount: blocks})
	for _, b := range r.Blocks {
		if len(b.Args) > api.MaxList || !areTypes(b.Args) {
			return false
		}
		s.found[valueCount] += len(b.Args)
		for _, op := range b.Ops {
			if !s.operation(op, depth, blocks) {
				return false
			}
		}
	}
	return true
}

// uses takes a list of numbers of values. How many values there are is not known before all was taken.
func (s *survey) uses(l []int) bool {
	if len(l) > api.MaxList {
		return false
	}
	for _, n := range l {
		if n < 0 {
			return false
		}
		s.highest = max(s.highest, n)
	}
	return true
}

func areTypes(l []string) bool {
	for _, t := range l {
		if types.Check(t) != api.OK {
			return false
		}
	}
	return true
}

// isOperationName tells whether a string is two names with a point between them.
func isOperationName(s string) bool {
	dialect, own, _ := strings.Cut(s, ".")
	return len(s) <= api.MaxName && isName(dialect) && isName(own)
}

// isName tells whether a string that is short enough is a name.
func isName(s string) bool {
	for at, c := range s {
		isLetter := 'a' <= c && c <= 'z'
		if !isLetter && (at == 0 || (c < '0' || c > '9') && c != '_') {
			return false
		}
	}
	return s != ""
}

// isIndex tells whether a number is that of an element of a list.
func isIndex(n, length int) bool { return 0 <= n && n < length }
