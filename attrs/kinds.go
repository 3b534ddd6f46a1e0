package attrs

import (
	"strconv"
	"strings"

	"demotic/api"
	"demotic/types"
)

const (
	maxTextBytes = 1000
	between      = ", "
)

// attribute is an attribute whose methods know the kinds.
type attribute api.Attr

// manner is how the attributes of one kind are checked, written and read.
type manner struct {
	right func(attribute) bool
	write func(attribute) string
	// read returns the attribute with the value that a string may be of. It reads loosely: see readAttribute.
	read func(attribute, string) (attribute, bool)
}

func mannerOf(k api.Kind) (manner, bool) {
	manners := map[api.Kind]manner{
		api.Int:    {attribute.rightInt, attribute.writeInt, attribute.readInt},
		api.Text:   {attribute.rightText, attribute.writeText, attribute.readText},
		api.Symbol: {attribute.rightSymbol, attribute.writeSymbol, attribute.readSymbol},
		api.Type:   {attribute.rightType, attribute.writeType, attribute.readType},
		api.Ints:   {attribute.rightInts, attribute.writeInts, attribute.readInts},
		api.Types:  {attribute.rightTypes, attribute.writeTypes, attribute.readTypes},
	}
	m, known := manners[k]
	return m, known
}

func (a attribute) isRight() bool {
	m, known := mannerOf(a.Kind)
	return known && isName(a.Name) && m.right(a)
}

// value returns the string of the value of a right attribute.
func (a attribute) value() string {
	m, known := mannerOf(a.Kind)
	if !known {
		return ""
	}
	return m.write(a)
}

// readAttribute returns the right attribute that has a name and the value of a string, if there is one.
func readAttribute(name, value string) (attribute, bool) {
	a := attribute{Name: name, Kind: kindOfValue(value)}
	m, known := mannerOf(a.Kind)
	if !known {
		return attribute{}, false
	}
	a, ok := m.read(a, value)
	// A value has one string: another one that could be read so, as 05, is none.
	if !ok || !a.isRight() || a.value() != value {
		return attribute{}, false
	}
	return a, true
}

// kindOfValue tells from its front of which kind a value is.
func kindOfValue(value string) api.Kind {
	if value == "" {
		return api.Type
	}
	switch c := rune(value[0]); {
	case c == '-' || isDigit(c):
		return api.Int
	case c == '"':
		return api.Text
	case c == '@':
		return api.Symbol
	case c == '[':
		return api.Ints
	case c == '(':
		return api.Types
	}
	return api.Type
}

func (a attribute) rightInt() bool {
	return a.Text == "" && len(a.Ints) == 0 && len(a.Texts) == 0
}

func (a attribute) rightText() bool {
	return a.usesText() && len(a.Text) <= maxTextBytes
}

func (a attribute) rightSymbol() bool {
	return a.usesText() && isName(a.Text)
}

func (a attribute) rightType() bool {
	return a.usesText() && types.Check(a.Text) == api.OK
}

// usesText tells whether the fields beside Text are empty.
func (a attribute) usesText() bool {
	return a.Int == 0 && len(a.Ints) == 0 && len(a.Texts) == 0
}

func (a attribute) rightInts() bool {
	return a.Int == 0 && a.Text == "" && len(a.Texts) == 0 && len(a.Ints) <= api.MaxList
}

func (a attribute) rightTypes() bool {
	if a.Int != 0 || a.Text != "" || len(a.Ints) > 0 || len(a.Texts) > api.MaxList {
		return false
	}
	for _, t := range a.Texts {
		if types.Check(t) != api.OK {
			return false
		}
	}
	return true
}

func (a attribute) writeInt() string {
	return strconv.FormatInt(a.Int, 10)
}

func (a attribute) writeText() string {
	return quoted(a.Text)
}

func (a attribute) writeSymbol() string {
	return "@" + a.Text
}

func (a attribute) writeType() string {
	return a.Text
}

func (a attribute) writeInts() string {
	numbers := make([]string, 0, len(a.Ints))
	for _, n := range a.Ints {
		numbers = append(numbers, strconv.FormatInt(n, 10))
	}
	return "[" + strings.Join(numbers, between) + "]"
}

func (a attribute) writeTypes() string {
	s, e := types.Join(a.Texts)
	if e != api.OK {
		return ""
	}
	return s
}

func (a attribute) readInt(value string) (attribute, bool) {
	n, err := strconv.ParseInt(value, 10, 64)
	a.Int = n
	return a, err == nil
}

func (a attribute) readText(value string) (attribute, bool) {
	text, ok := unquoted(value)
	a.Text = text
	return a, ok
}

func (a attribute) readSymbol(value string) (attribute, bool) {
	name, ok := strings.CutPrefix(value, "@")
	a.Text = name
	return a, ok
}

func (a attribute) readType(value string) (attribute, bool) {
	a.Text = value
	return a, true
}

func (a attribute) readInts(value string) (attribute, bool) {
	inner, ok := inside(value, "[", "]")
	if !ok || inner == "" {
		return a, ok
	}
	// One part more than a list may have tells that it is too long.
	for _, part := range strings.SplitN(inner, between, api.MaxList+1) {
		n, err := strconv.ParseInt(part, 10, 64)
		if err != nil {
			return a, false
		}
		a.Ints = append(a.Ints, n)
	}
	return a, true
}

func (a attribute) readTypes(value string) (attribute, bool) {
	l, e := types.Split(value)
	a.Texts = l
	return a, e == api.OK
}
