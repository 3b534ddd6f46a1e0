package verify_test

import (
	"fmt"
	"math"
	"slices"

	"demotic/api"
)

// operationsOf are all operations of a module.
func operationsOf(m api.Module) []*api.Op {
	var l []*api.Op
	var visit func(ops []api.Op)
	visit = func(ops []api.Op) {
		for i := range ops {
			l = append(l, &ops[i])
			for _, r := range ops[i].Regions {
				for _, b := range r.Blocks {
					visit(b.Ops)
				}
			}
		}
	}
	visit(m.Ops)
	return l
}

// blocksOf are all blocks of a module.
func blocksOf(m api.Module) []*api.Block {
	var l []*api.Block
	for _, o := range operationsOf(m) {
		for _, r := range o.Regions {
			for i := range r.Blocks {
				l = append(l, &r.Blocks[i])
			}
		}
	}
	return l
}

// copied is an operation with all that is inside of it, so that none is put inside of itself.
func copied(o api.Op) api.Op {
	o.Regions = slices.Clone(o.Regions)
	for i := range o.Regions {
		r := &o.Regions[i]
		r.Blocks = slices.Clone(r.Blocks)
		for n := range r.Blocks {
			b := &r.Blocks[n]
			b.Ops = slices.Clone(b.Ops)
			for j := range b.Ops {
				b.Ops[j] = copied(b.Ops[j])
			}
		}
	}
	return o
}

// elsewhere are names of operations that may stand where another one does, for a while.
var elsewhere = words("arith.add arith.sub arith.cast arith.const cf.br cf.trap func.call func.func func.return mem.load mem.alloc no.such scf.cond scf.for scf.if scf.while scf.yield toy.around toy.blocks toy.end toy.go toy.last toy.use zoo.ant")

var oddTypes = append(words("!no.such !toy.none i63 arr<i8> mem<4xi9> i2"), someTypes...)

// change changes one thing in a module, which may still be right.
func (k *maker) change(m *api.Module) {
	if len(m.Ops) == 0 || len(blocksOf(*m)) == 0 {
		return
	}
	o := pick(k, operationsOf(*m))
	b := pick(k, blocksOf(*m))
	switch k.next(16) {
	case 0:
		o.Name = pick(k, elsewhere)
	case 1:
		o.Operands = changedList(k, o.Operands, k.next(k.values+1))
	case 2:
		o.Results = changedList(k, o.Results, pick(k, oddTypes))
	case 3, 4:
		k.changeAttributes(o)
	case 5, 6:
		k.changeSuccessors(o)
	case 7:
		o.Regions = changedList(k, o.Regions, copied(*pick(k, operationsOf(*m))).Regions...)
	case 8:
		b.Args = changedList(k, b.Args, pick(k, oddTypes))
	case 9:
		b.Ops = b.Ops[:k.next(len(b.Ops)+1)]
	case 10:
		b.Ops = changedList(k, b.Ops, copied(*o))
	case 11:
		b.Ops = append(slices.Clone(b.Ops), copied(*o))
	case 12:
		swap(k, b.Ops)
	case 13:
		if len(b.Ops) > 0 {
			b.Ops[len(b.Ops)-1] = copied(*o)
		}
	case 14:
		other := pick(k, operationsOf(*m))
		o.Name, other.Name = other.Name, o.Name
	case 15:
		m.Ops = changedList(k, m.Ops, copied(pick(k, m.Ops)))
	}
}

// changedList is a list without one of its elements, with one twice, with two exchanged, or with another one in it.
func changedList[E any](k *maker, l []E, others ...E) []E {
	l = slices.Clone(l)
	if len(l) == 0 {
		return append(l, others...)
	}
	i := k.next(len(l))
	switch k.next(5) {
	case 0:
		l = slices.Delete(l, i, i+1)
	case 1:
		l = slices.Insert(l, i, l[i])
	case 2:
		swap(k, l)
	case 3:
		l = slices.Insert(l, i, others...)
	default:
		if len(others) > 0 {
			l[i] = pick(k, others)
		}
	}
	return l
}

// swap exchanges two elements of a list.
func swap[E any](k *maker, l []E) {
	if len(l) > 0 {
		i, j := k.next(len(l)), k.next(len(l))
		l[i], l[j] = l[j], l[i]
	}
}

func (k *maker) changeAttributes(o *api.Op) {
	if len(o.Attrs) == 0 {
		o.Attrs = []api.Attr{attribute(pick(k, words("a x_a x_")), "1")}
		return
	}
	o.Attrs = slices.Clone(o.Attrs)
	i := k.next(len(o.Attrs))
	a := &o.Attrs[i]
	switch way := k.next(8); {
	case way == 0:
		o.Attrs = slices.Delete(o.Attrs, i, i+1)
	case way == 1:
		*a = attribute(a.Name, pick(k, words("5 @f0 :i8 f1 (i8) eq 0")))
	case way == 2:
		o.Attrs = append(o.Attrs, attribute(pick(k, words("z x_z")), "1"))
	case a.Kind == api.Int:
		a.Int = pick(k, []int64{0, 1, -1, 2, 15, 16, 127, 128, -128, -129, math.MaxInt32, math.MaxInt32 + 1, math.MaxInt64, math.MinInt64})
	case a.Kind == api.Types:
		a.Texts = changedList(k, a.Texts, pick(k, oddTypes))
	case a.Kind == api.Symbol:
		a.Text = fmt.Sprint("f", k.next(4))
	case a.Kind == api.Text:
		a.Text = pick(k, words("eq slt lt uge odd EQ"))
	}
}

func (k *maker) changeSuccessors(o *api.Op) {
	o.Succs = slices.Clone(o.Succs)
	if len(o.Succs) == 0 {
		o.Succs = []api.Succ{{Block: k.next(2)}}
		return
	}
	s := &o.Succs[k.next(len(o.Succs))]
	switch k.next(4) {
	case 0:
		s.Block = k.next(4)
	case 1, 2:
		s.Args = changedList(k, s.Args, k.next(k.values+1))
	default:
		o.Succs = changedList(k, o.Succs, *s)
	}
}
