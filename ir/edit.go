package ir

import (
	"slices"

	"demotic/api"
)

// edit is a call that changes a function of a module: those of its arguments that it has, and the function.
type edit struct {
	module   api.Module
	f        int
	path     []int
	from, to int
	op       api.Op
	function *function
}

// run returns the module after a change of the function.
func (d *edit) run(change func() api.Errno) (api.Module, api.Errno) {
	fn, e := opened(d.module, d.f)
	if e != api.OK {
		return api.Module{}, e
	}
	d.function = fn
	e = change()
	if e != api.OK {
		return api.Module{}, e
	}
	return d.written(), api.OK
}

// written returns the module with the function as it is now. The other functions are read and written, too, because results are new memory.
func (d *edit) written() api.Module {
	ops := make([]api.Op, 0, len(d.module.Ops))
	for i, op := range d.module.Ops {
		fn := d.function
		if i != d.f {
			fn = read(op)
		}
		written := fn.written()
		ops = append(ops, written)
	}
	return api.Module{Ops: ops}
}

func (d *edit) replace() api.Errno {
	values := d.function.values
	if !isIndex(d.from, len(values)) || !isIndex(d.to, len(values)) {
		return api.ErrNone
	}
	from, to := values[d.from], values[d.to]
	for l := range d.function.uses() {
		for i, v := range l {
			if v == from {
				l[i] = to
			}
		}
	}
	return api.OK
}

func (d *edit) erase() api.Errno {
	s, ok := d.function.find(d.path)
	if !ok {
		return api.ErrNone
	}
	if len(s.block.ops) == 1 {
		return api.ErrState
	}
	s.block.ops = slices.Delete(s.block.ops, s.index, s.index+1)
	if !d.function.isWhole() {
		return api.ErrState
	}
	return api.OK
}

func (d *edit) insert() api.Errno {
	s, ok := d.function.find(d.path)
	if !ok {
		return api.ErrNone
	}
	if !d.canInsert(len(s.region)) {
		return api.ErrArg
	}
	if found, _ := surveyed(d.module); found[operationCount] == api.MaxOps {
		return api.ErrLarge
	}
	o := newOperation(d.op)
	d.function.link(o)
	s.block.ops = slices.Insert(s.block.ops, s.index, o)
	return api.OK
}

func (d *edit) swap() api.Errno {
	s, ok := d.function.find(d.path)
	next := s.index + 1
	if !ok || next == len(s.block.ops) {
		return api.ErrNone
	}
	ops := s.block.ops
	ops[s.index], ops[next] = ops[next], ops[s.index]
	return api.OK
}

// canInsert tells whether the operation can stand in a region with so many blocks.
func (d *edit) canInsert(blocks int) bool {
	s := survey{highest: -1, room: 1}
	return len(d.op.Regions) == 0 && s.operation(d.op, 0, blocks) && s.highest < len(d.function.values)
}

// isWhole tells whether all values that are used are those of the function as it is now.
func (f *function) isWhole() bool {
	numbers := f.numbers()
	for l := range f.uses() {
		for _, v := range l {
			if _, known := numbers[v]; !known {
				return false
			}
		}
	}
	return true
}
