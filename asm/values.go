package asm

import "demotic/api"

// values returns the types of the values in some regions, in the order of their numbers.
func values(regions ...api.Region) []string {
	var l []string
	for _, g := range regions {
		for _, b := range g.Blocks {
			l = append(l, b.Args...)
			for _, op := range b.Ops {
				l = append(l, op.Results...)
				l = append(l, values(op.Regions...)...)
			}
		}
	}
	return l
}

// before returns how many values of a region come before the operation that is found there by a path.
func before(g api.Region, path []int) int {
	at, index := path[0], path[1]
	b := g.Blocks[at]
	earlier := api.Region{Blocks: g.Blocks[:at]}
	beside := api.Region{Blocks: []api.Block{{Args: b.Args, Ops: b.Ops[:index]}}}
	n := len(values(earlier, beside))
	if path = path[2:]; len(path) == 0 {
		return n
	}
	op := b.Ops[index]
	inner := path[0]
	return n + len(op.Results) + len(values(op.Regions[:inner]...)) + before(op.Regions[inner], path[1:])
}

// depth returns how many regions deep the operation at a path stands: for each region the path has a block and an index, and between them the region of an operation.
func depth(path []int) int { return (len(path) + 1) / 3 }
