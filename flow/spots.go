package flow

import (
	"iter"

	"demotic/api"
)

// regionPath is the path of a region, as long as that of the deepest region may be, so that two of them can be compared.
type regionPath struct {
	length int
	steps  [3 * (api.MaxDepth - 1)]int
}

// spot is where an operation stands in a function, or where a value is defined.
type spot struct {
	region       regionPath
	block, index int
}

// beforeAll is the index where the arguments of a block are defined.
const beforeAll = -1

func newSpot(region []int, block, index int) spot {
	s := spot{block: block, index: index}
	s.region.length = copy(s.region.steps[:], region)
	return s
}

func spotOfOperation(path []int) spot {
	n := len(path) - 2
	return newSpot(path[:n], path[n], path[n+1])
}

// spotOfValue takes what package ir has as the source of a value.
func spotOfValue(path []int, block int) spot {
	if block < 0 {
		return spotOfOperation(path)
	}
	return newSpot(path, block, beforeAll)
}

// outwards gives where the operation at a path stands, then the one in whose region it is, and so on.
func outwards(path []int) iter.Seq[spot] {
	return func(yield func(spot) bool) {
		for n := len(path); n > 0; n -= 3 {
			if !yield(spotOfOperation(path[:n])) {
				return
			}
		}
	}
}

// sees tells whether what is defined at one spot of a region is visible at an operation of that region.
func (g *graph) sees(operation, defined spot) bool {
	if !g.reachable.has(operation.block) {
		return true
	}
	if operation.block == defined.block {
		return defined.index < operation.index
	}
	return g.dominated(defined.block).has(operation.block)
}
