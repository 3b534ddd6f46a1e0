package flow

import (
	"slices"

	"demotic/api"
)

// content is what a block has, also inside of its operations. As numbers of values rise in the text, those that are defined in it are all from first on up to behind.
type content struct {
	first, behind int
	used          set
}

// contents returns the contents of the blocks of a body that has so many values.
func contents(body api.Region, values int) []content {
	var all []content
	first := 0
	for _, b := range body.Blocks {
		c := content{first: first, behind: first, used: newSet(values)}
		c.take(b)
		first = c.behind
		all = append(all, c)
	}
	return all
}

// take adds what comes next in the text: a block, and all that is inside of its operations.
func (c *content) take(b api.Block) {
	c.behind += len(b.Args)
	for _, op := range b.Ops {
		c.behind += len(op.Results)
		c.used.add(op.Operands...)
		for _, s := range op.Succs {
			c.used.add(s.Args...)
		}
		for _, r := range op.Regions {
			for _, inner := range r.Blocks {
				c.take(inner)
			}
		}
	}
}

// entering returns the values that live at the entry of a block, given those that live at the entries of its successors.
func (c content) entering(after ...set) set {
	values := union(c.used, after...)
	for v := c.first; v < c.behind; v++ {
		values.remove(v)
	}
	return values
}

// live returns the values that live at the entries of blocks with these contents.
func (g *graph) live(contents []content) []set {
	blocks := len(contents)
	living := make([]set, blocks)
	for b, c := range contents {
		living[b] = c.entering()
	}
	order := g.backwards()
	unchanged := 0
rounds:
	for {
		for _, b := range order {
			var after []set
			for _, n := range g.next[b] {
				after = append(after, living[n])
			}
			now := contents[b].entering(after...)
			unchanged++
			if !slices.Equal(now, living[b]) {
				living[b] = now
				unchanged = 0
			}
			if unchanged == blocks {
				break rounds
			}
		}
	}
	return living
}

// backwards returns all blocks, those that are not reachable, too, each one after its successors, unless it is in a circle with them.
func (g *graph) backwards() []int {
	order := slices.Clone(g.left)
	entered := slices.Clone(g.reachable)
	for b := range g.next {
		more := walk(g.next, entered, b)
		order = append(order, more...)
	}
	return order
}
