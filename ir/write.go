package ir

import (
	"slices"

	"demotic/api"
)

// writer turns operations back into data, with these numbers of values.
type writer map[*value]int

// written returns a function as it is now, with its values numbered anew.
func (f *function) written() api.Op {
	return writer(f.numbers()).operation(f.root)
}

func (w writer) operation(o *operation) api.Op {
	return api.Op{
		Name:     o.data.Name,
		Operands: mapped(o.operands, w.number),
		Results:  mapped(o.results, textOf),
		Attrs:    mapped(o.data.Attrs, copied),
		Regions:  mapped(o.regions, w.region),
		Succs:    mapped(o.succs, w.successor),
	}
}

func (w writer) region(r region) api.Region {
	return api.Region{Blocks: mapped(r, w.block)}
}

func (w writer) block(b *block) api.Block {
	return api.Block{Args: mapped(b.args, textOf), Ops: mapped(b.ops, w.operation)}
}

func (w writer) successor(s successor) api.Succ {
	return api.Succ{Block: s.block, Args: mapped(s.args, w.number)}
}

func (w writer) number(v *value) int { return w[v] }

func textOf(v *value) string { return v.text }

// copied returns an attribute that shares no memory with a.
func copied(a api.Attr) api.Attr {
	a.Ints = slices.Clone(a.Ints)
	a.Texts = slices.Clone(a.Texts)
	return a
}
