// Package types is layer 1: it reads types, which are strings, and knows their numbers. See shared/doc/01-types.md.
package types

import (
	"slices"

	"demotic/api"
)

// Kind is the kind of a type.
type Kind int

// The kinds of types.
const (
	Integer Kind = iota
	Index
	Memory
	Array
	Foreign
)

// Check returns OK for a type.
func Check(t string) api.Errno {
	_, e := described(t)
	return e
}

// KindOf returns the kind of a type.
func KindOf(t string) (Kind, api.Errno) {
	d, e := described(t)
	return d.kind, e
}

// Bits returns the bits of a number type.
func Bits(t string) (int, api.Errno) {
	d, e := described(t)
	if e != api.OK {
		return 0, e
	}
	if !d.isNumber() {
		return 0, api.ErrArg
	}
	return d.bits, api.OK
}

// Shape returns the extents and the element type of a memory or array type.
func Shape(t string) (extents []int, element string, e api.Errno) {
	d, e := shaped(t)
	if e != api.OK {
		return nil, "", e
	}
	return slices.Collect(d.each()), d.element, api.OK
}

// Cells returns the number of cells of a memory or array type.
func Cells(t string) (int, api.Errno) {
	d, e := shaped(t)
	if e != api.OK {
		return 0, e
	}
	return d.cells(), api.OK
}

// Rank returns the number of extents of a memory or array type.
func Rank(t string) (int, api.Errno) {
	d, e := shaped(t)
	return d.rank, e
}

// Element returns the element type of a memory or array type.
func Element(t string) (string, api.Errno) {
	d, e := shaped(t)
	return d.element, e
}

// Turned returns the array type of the shape of a memory type, and the other way round.
func Turned(t string) (string, api.Errno) {
	d, e := shaped(t)
	if e != api.OK {
		return "", e
	}
	if d.kind == Memory {
		d.kind = Array
	} else {
		d.kind = Memory
	}
	return d.text(), api.OK
}

// Make returns the memory or array type with these extents and this element type.
func Make(k Kind, extents []int, element string) (string, api.Errno) {
	d := description{kind: k, element: element}
	if !d.isShaped() || len(extents) > maxRank {
		return "", api.ErrArg
	}
	for _, n := range extents {
		if n < 0 || n > maxExtent {
			return "", api.ErrArg
		}
	}
	if !read(element).isNumber() {
		return "", api.ErrType
	}
	d.rank = copy(d.extents[:], extents)
	if d.cells() > api.MaxCells {
		return "", api.ErrLarge
	}
	return d.text(), api.OK
}

// Range returns the least and the greatest number of a number type.
func Range(t string) (low, high int64, e api.Errno) {
	bits, e := Bits(t)
	if e != api.OK {
		return 0, 0, e
	}
	low = -1 << (bits - 1)
	return low, ^low, api.OK
}

// Wrap returns the number of the range of t that is congruent to n.
func Wrap(t string, n int64) (int64, api.Errno) {
	bits, e := Bits(t)
	if e != api.OK {
		return 0, e
	}
	// The shift back repeats the sign bit of the type.
	unused := maxBits - bits
	return n << unused >> unused, api.OK
}

// Unsigned returns the number from 0 to 2^bits - 1 that is congruent to n.
func Unsigned(t string, n int64) (uint64, api.Errno) {
	bits, e := Bits(t)
	if e != api.OK {
		return 0, e
	}
	unused := maxBits - bits
	return uint64(n) << unused >> unused, api.OK
}

// described returns what a type says, or ErrType.
func described(t string) (description, api.Errno) {
	d := read(t)
	if d == (description{}) {
		return d, api.ErrType
	}
	return d, api.OK
}

// shaped returns what a memory or array type says, or ErrType or ErrArg.
func shaped(t string) (description, api.Errno) {
	d, e := described(t)
	if e == api.OK && !d.isShaped() {
		return description{}, api.ErrArg
	}
	return d, e
}
