package ir

import "iter"

// item is what defines values: a block of a region or an operation.
type item struct {
	path   []int // of the region of the block, or of the operation
	block  int   // the number of the block; -1 for an operation
	place  place // of the first one of the values
	values []*value
}

// spot is where an operation stands.
type spot struct {
	region region
	block  *block
	index  int
}

func (s spot) operation() *operation { return s.block.ops[s.index] }

// items gives the blocks and the operations inside of a function, in the order of its text.
func (f *function) items() iter.Seq[item] {
	return func(yield func(item) bool) {
		var walk func(r region, path []int) bool
		walk = func(r region, path []int) bool {
			for n, b := range r {
				if !yield(item{path, n, place{block: b}, b.args}) {
					return false
				}
				for i, o := range b.ops {
					own := longer(path, n, i)
					if !yield(item{own, -1, place{op: o}, o.results}) {
						return false
					}
					for k, inner := range o.regions {
						if !walk(inner, longer(own, k)) {
							return false
						}
					}
				}
			}
			return true
		}
		walk(f.body(), nil)
	}
}

// operations gives the operations inside of a function, in the order of its text, and their paths.
func (f *function) operations() iter.Seq2[[]int, *operation] {
	return func(yield func([]int, *operation) bool) {
		for it := range f.items() {
			if it.place.op != nil && !yield(it.path, it.place.op) {
				return
			}
		}
	}
}

// uses gives the lists in which the operations inside of a function point to values.
func (f *function) uses() iter.Seq[[]*value] {
	return func(yield func([]*value) bool) {
		for _, o := range f.operations() {
			if !yield(o.operands) {
				return
			}
			for _, s := range o.succs {
				if !yield(s.args) {
					return
				}
			}
		}
	}
}

// numbers returns the numbers of all values, as the function is now.
func (f *function) numbers() map[*value]int {
	numbers := make(map[*value]int, len(f.values))
	next := 0
	for it := range f.items() {
		for _, v := range it.values {
			numbers[v] = next
			next++
		}
	}
	return numbers
}

// longer returns a path that goes on from another one. Without the third index, paths that go on from the same one could share their memory.
func longer(path []int, steps ...int) []int {
	return append(path[:len(path):len(path)], steps...)
}

// find returns where the operation at a path stands.
func (f *function) find(path []int) (spot, bool) {
	r := f.body()
	for len(path) >= 2 {
		n, i := path[0], path[1]
		if !isIndex(n, len(r)) || !isIndex(i, len(r[n].ops)) {
			break
		}
		s := spot{r, r[n], i}
		if len(path) == 2 {
			return s, true
		}
		inner := s.operation().regions
		if !isIndex(path[2], len(inner)) {
			break
		}
		r = inner[path[2]]
		path = path[3:]
	}
	return spot{}, false
}

// findRegion returns the region at a path.
func (f *function) findRegion(path []int) (region, bool) {
	if len(path) == 0 {
		return f.body(), true
	}
	last := len(path) - 1
	s, ok := f.find(path[:last:last])
	if !ok || !isIndex(path[last], len(s.operation().regions)) {
		return nil, false
	}
	return s.operation().regions[path[last]], true
}
