package types

import (
	"iter"
	"strconv"
	"strings"
)

const (
	maxBits   = 64
	maxRank   = 3
	maxExtent = 1000

	indexWord  = "index"
	memoryWord = "mem"
	arrayWord  = "arr"
)

// description is a type that was read. The zero value is that of a string that is no type: no integer type has 0 bits.
type description struct {
	kind    Kind
	bits    int // of a number type
	rank    int
	extents [maxRank]int // those beyond the rank are 0, so that descriptions can be compared
	element string
}

func (d description) isNumber() bool {
	return d.bits > 0
}

func (d description) isShaped() bool {
	return d.kind == Memory || d.kind == Array
}

func (d description) cells() int {
	return product(d.extents[:d.rank]...)
}

// each gives the extents, one after the other.
func (d description) each() iter.Seq[int] {
	return func(yield func(int) bool) {
		for _, n := range d.extents[:d.rank] {
			if !yield(n) {
				return
			}
		}
	}
}

// text returns the string of a memory or array type.
func (d description) text() string {
	var b strings.Builder
	if d.kind == Memory {
		b.WriteString(memoryWord)
	} else {
		b.WriteString(arrayWord)
	}
	b.WriteByte('<')
	for n := range d.each() {
		b.WriteString(strconv.Itoa(n))
		b.WriteByte('x')
	}
	b.WriteString(d.element)
	b.WriteByte('>')
	return b.String()
}

func product(factors ...int) int {
	p := 1
	for _, n := range factors {
		p *= n
	}
	return p
}
