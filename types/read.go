package types

import (
	"strconv"

	"demotic/api"
)

// taker takes, from the front of what is left of a string, the longest run of characters that belong to it.
type taker func(belongs func(rune) bool) string

// reader returns a taker for a string.
func reader(left string) taker {
	return func(belongs func(rune) bool) string {
		end := len(left)
		for i, c := range left {
			if !belongs(c) {
				end = i
				break
			}
		}
		run := left[:end]
		left = left[end:]
		return run
	}
}

// read returns what a string says as a type, and the zero value if it is none.
func read(t string) description {
	// No type is longer than a foreign one may be, and long strings need not be read to their ends.
	if len(t) > api.MaxName {
		return description{}
	}
	take := reader(t)
	kind, known := kindOfWord(take)
	if !known {
		return description{}
	}
	d, ok := readKind(kind, take)
	if !ok || take(anything) != "" {
		return description{}
	}
	return d
}

// kindOfWord takes the word with which a type begins.
func kindOfWord(take taker) (Kind, bool) {
	kinds := map[string]Kind{
		"i":        Integer,
		indexWord:  Index,
		memoryWord: Memory,
		arrayWord:  Array,
		"!":        Foreign,
	}
	word := take(isLetter)
	if word == "" {
		word = take(only('!'))
	}
	kind, known := kinds[word]
	return kind, known
}

// readKind takes what comes after the word of a type.
func readKind(kind Kind, take taker) (description, bool) {
	switch kind {
	case Index:
		return description{kind: Index, bits: maxBits}, true
	case Memory, Array:
		return readShape(kind, take)
	case Foreign:
		return readForeign(take)
	}
	bits, ok := number(take(isDigit), 1, maxBits)
	return description{kind: Integer, bits: bits}, ok
}

// readShape takes what comes after the word of a memory or array type.
func readShape(kind Kind, take taker) (description, bool) {
	d := description{kind: kind}
	if take(only('<')) != "<" {
		return d, false
	}
	for digits := take(isDigit); digits != ""; digits = take(isDigit) {
		n, ok := number(digits, 0, maxExtent)
		if !ok || take(only('x')) != "x" || d.rank == maxRank {
			return d, false
		}
		d.extents[d.rank] = n
		d.rank++
	}
	d.element = take(isPart)
	ok := read(d.element).isNumber() && take(only('>')) == ">" && d.cells() <= api.MaxCells
	return d, ok
}

// readForeign takes what comes after the `!` of a foreign type.
func readForeign(take taker) (description, bool) {
	ok := takeName(take) && take(only('.')) == "." && takeName(take)
	return description{kind: Foreign}, ok
}

// takeName takes a name. It need not count the bytes: the whole type has at most as many as a name.
func takeName(take taker) bool {
	name := take(isPart)
	return name != "" && isLetter(rune(name[0]))
}

// number returns the number of a run of digits, if it has no leading zero and is in the range.
func number(digits string, low, high int) (int, bool) {
	if len(digits) > 1 && digits[0] == '0' {
		return 0, false
	}
	n, err := strconv.Atoi(digits)
	if err != nil || n < low || n > high {
		return 0, false
	}
	return n, true
}

func only(wanted rune) func(rune) bool {
	return func(c rune) bool { return c == wanted }
}

func anything(rune) bool { return true }

func isLetter(c rune) bool { return 'a' <= c && c <= 'z' }

func isDigit(c rune) bool { return '0' <= c && c <= '9' }

// isPart tells whether a character may stand in a name, if not at its front.
func isPart(c rune) bool { return isLetter(c) || isDigit(c) || c == '_' }
