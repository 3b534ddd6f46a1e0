package flow

import (
	"iter"
	"math/bits"
	"slices"
)

const wordBits = 64

// set is a set of blocks or of values, by their numbers: bits in words.
type set []uint64

// newSet returns an empty set for numbers less than size.
func newSet(size int) set { return make(set, (size+wordBits-1)/wordBits) }

func (s set) has(n int) bool { return s[n/wordBits]>>(n%wordBits)&1 != 0 }

func (s set) add(numbers ...int) {
	for _, n := range numbers {
		s[n/wordBits] |= 1 << (n % wordBits)
	}
}

func (s set) remove(n int) { s[n/wordBits] &^= 1 << (n % wordBits) }

// union returns the set of all that is in one of the sets, which are of the same size.
func union(first set, others ...set) set {
	all := slices.Clone(first)
	for _, s := range others {
		for i, w := range s {
			all[i] |= w
		}
	}
	return all
}

// without returns the set of what is in s and not in t.
func (s set) without(t set) set {
	rest := slices.Clone(s)
	for i, w := range t {
		rest[i] &^= w
	}
	return rest
}

// all gives the numbers that are in a set, rising.
func (s set) all() iter.Seq[int] {
	return func(yield func(int) bool) {
		for i, w := range s {
			for ; w != 0; w &= w - 1 {
				if !yield(i*wordBits + bits.TrailingZeros64(w)) {
					return
				}
			}
		}
	}
}

// listed returns what is in each set, rising.
func listed(sets []set) [][]int {
	lists := make([][]int, len(sets))
	for i, s := range sets {
		lists[i] = slices.Collect(s.all())
	}
	return lists
}
