package attrs

import (
	"strconv"
	"strings"

	"demotic/api"
)

const quote = `"`

// quoted returns the string of a text.
func quoted(text string) string {
	var b strings.Builder
	b.WriteString(quote)
	// By bytes, not by characters: a text may be any bytes.
	for i := range len(text) {
		b.WriteString(escaped(text[i]))
	}
	b.WriteString(quote)
	return b.String()
}

// escaped returns what stands for a byte in the string of a text.
func escaped(b byte) string {
	const digits = "0123456789abcdef"
	switch {
	case b == '"':
		return `\"`
	case b == '\\':
		return `\\`
	case b == '\n':
		return `\n`
	case b < ' ' || b > '~':
		return `\x` + string(rune(digits[b>>4])) + string(rune(digits[b&15]))
	}
	return string(rune(b))
}

// unquoted returns the text that a string may be of.
func unquoted(value string) (string, bool) {
	inner, ok := inside(value, quote, quote)
	var b strings.Builder
	next := 0
reading:
	for at, c := range inner {
		switch {
		case at < next:
			// The character belongs to an escape that has been read.
		case c == '\\':
			code, width := unescaped(inner[at:])
			if width == 0 {
				ok = false
				break reading
			}
			b.WriteByte(code)
			next = at + width
		case c < ' ' || c > '~':
			ok = false
			break reading
		default:
			b.WriteByte(byte(c))
		}
	}
	if !ok {
		return "", false
	}
	return b.String(), true
}

// unescaped returns the byte for which the escape at the front of a string may stand, and the bytes of the escape: 0 if there is none.
func unescaped(s string) (code byte, width int) {
	if len(s) < 2 {
		return 0, 0
	}
	switch s[1] {
	case '"', '\\':
		return s[1], 2
	case 'n':
		return '\n', 2
	case 'x':
		if len(s) < 4 {
			return 0, 0
		}
		n, err := strconv.ParseUint(s[2:4], 16, 8)
		if err != nil {
			return 0, 0
		}
		return byte(n), 4
	}
	return 0, 0
}

// inside returns what stands between an opening and a closing mark.
func inside(s, opening, closing string) (string, bool) {
	s, opened := strings.CutPrefix(s, opening)
	s, closed := strings.CutSuffix(s, closing)
	return s, opened && closed
}

func isName(s string) bool {
	if s == "" || len(s) > api.MaxName {
		return false
	}
	for at, c := range s {
		if !isLetter(c) && (at == 0 || !isDigit(c) && c != '_') {
			return false
		}
	}
	return true
}

func isLetter(c rune) bool { return 'a' <= c && c <= 'z' }

func isDigit(c rune) bool { return '0' <= c && c <= '9' }
