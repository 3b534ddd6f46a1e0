package asm

import (
	"iter"
	"strings"
)

const (
	signs = "()[]{},=:"
	arrow = "->"
)

// token stands in a line of a string. One without text is none: there stands a byte that is no part of a token, or a string without an end, or the whole string ends.
type token struct {
	text string
	line int
}

// tokens gives the tokens of a string, one after the other, up to the first one that is none.
func tokens(s string) iter.Seq[token] {
	return func(yield func(token) bool) {
		left, line := s, 1
		for left != "" {
			size := gap(left)
			if size == 0 {
				size = length(left)
				if !yield(token{left[:size], line}) || size == 0 {
					return
				}
			}
			line += strings.Count(left[:size], "\n")
			left = left[size:]
		}
	}
}

// lines returns how many lines a string has.
func lines(s string) int {
	n := strings.Count(s, "\n")
	if s != "" && !strings.HasSuffix(s, "\n") {
		n++
	}
	return n
}

// gap returns how many bytes at the front of a string are a blank, a line feed, or a comment.
func gap(s string) int {
	if s[0] == ' ' || s[0] == '\n' {
		return 1
	}
	if !strings.HasPrefix(s, "//") {
		return 0
	}
	comment, _, _ := strings.Cut(s, "\n")
	return len(comment)
}

// length returns how many bytes the token has with which a string begins, and 0 if it begins with none.
func length(s string) int {
	switch {
	case s[0] == '"':
		return quoteLength(s)
	case strings.HasPrefix(s, arrow):
		return len(arrow)
	case strings.IndexByte(signs, s[0]) >= 0:
		return 1
	}
	return wordLength(s)
}

// quoteLength returns how long the string between quotes is that begins here, and 0 if it has no end.
func quoteLength(s string) int {
	escaped := false
	for i, c := range s[1:] {
		switch {
		case escaped:
			escaped = false
		case c == '\\':
			escaped = true
		case c == '"':
			return len(`"`) + i + len(`"`)
		}
	}
	return 0
}

func wordLength(s string) int {
	for i, c := range s {
		if !isNamePart(c) && !strings.ContainsRune(".<>!%^@-", c) || strings.HasPrefix(s[i:], arrow) {
			return i
		}
	}
	return len(s)
}

// isNamePart tells whether a character may stand in the name of a value or a block.
func isNamePart(c rune) bool {
	return 'a' <= c && c <= 'z' || 'A' <= c && c <= 'Z' || '0' <= c && c <= '9' || c == '_'
}
