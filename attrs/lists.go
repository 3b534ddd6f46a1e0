package attrs

import (
	"iter"
	"strings"

	"demotic/api"
)

const (
	blank  = " "
	equals = " = "
)

func isRightList(l []api.Attr) bool {
	if len(l) > api.MaxList {
		return false
	}
	for i, a := range l {
		if i > 0 && l[i-1].Name >= a.Name || !attribute(a).isRight() {
			return false
		}
	}
	return true
}

func nameOf(a api.Attr) string { return a.Name }

// search returns where in a list the first element stands that has a key.
func search[E any, K comparable](l []E, wanted K, key func(E) K) (at int, found bool) {
	for i, x := range l {
		if key(x) == wanted {
			return i, true
		}
	}
	return 0, false
}

// united gives the attributes of two rising lists in their order; of two with the same name, that of m.
func united(l, m []api.Attr) iter.Seq[api.Attr] {
	return func(yield func(api.Attr) bool) {
		i, j := 0, 0
		for i < len(l) || j < len(m) {
			order := -1
			if i == len(l) {
				order = 1
			} else if j < len(m) {
				order = strings.Compare(l[i].Name, m[j].Name)
			}
			var a api.Attr
			if order <= 0 {
				a = l[i]
				i++
			}
			if order >= 0 {
				a = m[j]
				j++
			}
			if !yield(a) {
				return
			}
		}
	}
}

// copied returns an attribute that shares no memory with a.
func copied(a api.Attr) api.Attr {
	a.Ints = fresh(a.Ints)
	a.Texts = fresh(a.Texts)
	return a
}

func copiedList(l []api.Attr) []api.Attr {
	l = fresh(l)
	for i, a := range l {
		l[i] = copied(a)
	}
	return l
}

// fresh returns the elements of a list in new memory.
func fresh[E any](l []E) []E {
	if len(l) == 0 {
		return nil
	}
	m := make([]E, len(l))
	copy(m, l)
	return m
}

// listText returns the string of a right list.
func listText(l []api.Attr) string {
	if len(l) == 0 {
		return ""
	}
	var b strings.Builder
	b.WriteString("{")
	for i, a := range l {
		if i > 0 {
			b.WriteString(between)
		}
		b.WriteString(a.Name)
		b.WriteString(equals)
		b.WriteString(attribute(a).value())
	}
	b.WriteString("}")
	return b.String()
}

// readList returns the right list of a string, if there is one.
func readList(s string) ([]api.Attr, bool) {
	if s == "" {
		return nil, true
	}
	body, ok := inside(s, "{", "}")
	if !ok {
		return nil, false
	}
	var l []api.Attr
	for item := range items(body) {
		name, value, _ := strings.Cut(strings.TrimPrefix(item, blank), equals)
		a, ok := readAttribute(name, value)
		if !ok || len(l) == api.MaxList {
			return nil, false
		}
		l = append(l, api.Attr(a))
	}
	// A list has one string, and the items were cut out loosely: with blanks or without them.
	if !isRightList(l) || listText(l) != s {
		return nil, false
	}
	return l, true
}

// items gives what stands between the commas that are neither in a text nor in brackets.
func items(body string) iter.Seq[string] {
	return func(yield func(string) bool) {
		start := 0
		encloses := enclosure()
		for at, c := range body {
			if encloses(c) || c != ',' {
				continue
			}
			if !yield(body[start:at]) {
				return
			}
			start = at + 1
		}
		yield(body[start:])
	}
}

// enclosure returns a function that takes the characters of a string one after the other, and tells of each whether a text or brackets are open after it.
func enclosure() func(rune) bool {
	closings := map[rune]rune{'"': '"', '[': ']', '(': ')'}
	var closing rune // 0 if nothing is open
	escaped := false
	return func(c rune) bool {
		switch {
		case escaped:
			escaped = false
		case closing == 0:
			closing = closings[c]
		case c == '\\':
			escaped = true
		case c == closing:
			closing = 0
		}
		return closing != 0
	}
}
