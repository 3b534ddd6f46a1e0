package asm_test

import (
	"math/rand/v2"
	"slices"
	"strings"
	"testing"

	"demotic/api"
	"demotic/asm"
)

func TestP7_3Examples(t *testing.T) {
	for _, c := range []struct {
		s, want string
		e       api.Errno
	}{
		{"", "", api.OK},
		{" \n  \n", "", api.OK},
		{"a b\nc", "a|b|c", api.OK},
		{"azAZ09_.<>!%^@-", "azAZ09_.<>!%^@-", api.OK},
		{"()[]{},=:", "(|)|[|]|{|}|,|=|:", api.OK},
		{"%0:i32,%1=5", "%0|:|i32|,|%1|=|5", api.OK},
		{"%a%b^c", "%a%b^c", api.OK},
		// An arrow is a token of its own, and a word ends before it.
		{"a->b", "a|->|b", api.OK},
		{"->", "->", api.OK},
		{"->->", "->|->", api.OK},
		{"-->", "-|->", api.OK},
		{"->>", "->|>", api.OK},
		{"->-", "->|-", api.OK},
		{"- >", "-|>", api.OK},
		{"-1->-1", "-1|->|-1", api.OK},
		{"mem<i8>->", "mem<i8>|->", api.OK},
		{"a-", "a-", api.OK},
		{"-", "-", api.OK},
		{"a>-b", "a>-b", api.OK},
		// Strings.
		{`""`, `""`, api.OK},
		{`"a b"`, `"a b"`, api.OK},
		{`a"b"c`, `a|"b"|c`, api.OK},
		{`"a""b"`, `"a"|"b"`, api.OK},
		{`"\""`, `"\""`, api.OK},
		{`"\\"`, `"\\"`, api.OK},
		{`"\\\""`, `"\\\""`, api.OK},
		{`"\x00\n"`, `"\x00\n"`, api.OK},
		{`"// ; ->"`, `"// ; ->"`, api.OK},
		{`"`, "", api.ErrText},
		{`"a`, "", api.ErrText},
		{`"\"`, "", api.ErrText},
		{`"\\\"`, "", api.ErrText},
		{`a b "c`, "", api.ErrText},
		{`"a" "`, "", api.ErrText},
		// Comments.
		{"//", "", api.OK},
		{"// a\nb", "b", api.OK},
		{"a// b\n//\nc//", "a|c", api.OK},
		{"a///b", "a", api.OK},
		{"// \x00\t\xff;\"\né", "", api.ErrText},
		{"// \x00\t\xff;\"é\n", "", api.OK},
		{"/", "", api.ErrText},
		{"a / b", "", api.ErrText},
		{"/ /", "", api.ErrText},
		{"a/", "", api.ErrText},
		// Other bytes.
		{"\t", "", api.ErrText},
		{"a\r\nb", "", api.ErrText},
		{"a;", "", api.ErrText},
		{"é", "", api.ErrText},
		{"a\x80", "", api.ErrText},
		{"\xff", "", api.ErrText},
		{"\x00", "", api.ErrText},
		{"'", "", api.ErrText},
		{"\u00a0", "", api.ErrText},
		{"\ufffd", "", api.ErrText},
	} {
		got, e := asm.Tokens(c.s)
		if strings.Join(got, "|") != c.want || e != c.e || e != api.OK && len(got) > 0 {
			t.Errorf("Tokens(%q): %q %d, want %q %d", c.s, got, e, c.want, c.e)
		}
	}
}

// Each byte but those of tokens, blanks and line feeds is wrong outside of strings and comments, and right inside of them.
func TestP7_3Bytes(t *testing.T) {
	const inWords = "abcdefghijklmnopqrstuvwxyzABCDEFGHIJKLMNOPQRSTUVWXYZ0123456789_.<>!%^@-"
	for i := range 256 {
		b := string([]byte{byte(i)})
		e := api.ErrText
		want := ""
		switch {
		case strings.Contains(inWords, b):
			e, want = api.OK, "x"+b+"y"
		case strings.Contains("()[]{},=:", b):
			e, want = api.OK, "x|"+b+"|y"
		case b == " " || b == "\n":
			e, want = api.OK, "x|y"
		}
		if got, f := asm.Tokens("x" + b + "y"); f != e || strings.Join(got, "|") != want {
			t.Errorf("%q: %q %d", b, got, f)
		}
		if got, f := asm.Tokens("//" + b + "\n"); f != api.OK || len(got) > 0 {
			t.Errorf("%q in a comment: %q %d", b, got, f)
		}
		if b == `"` || b == `\` || b == "\n" {
			continue
		}
		if got, f := asm.Tokens(`"` + b + `"`); f != api.OK || strings.Join(got, "|") != `"`+b+`"` {
			t.Errorf("%q in a string: %q %d", b, got, f)
		}
	}
}

func TestP7_3SecondReading(t *testing.T) {
	r := rand.New(rand.NewPCG(7, 3))
	pieces := []string{"a", "Z", "0", "_", ".", "<", ">", "!", "%", "^", "@", "-", "->", "(", ")", "[", "]", "{", "}", ",", "=", ":", " ", "\n", "//", "/", `"`, `\`, `\"`, ";", "\t", "\x80", "é", `"a"`}
	fine := 0
	for range 60000 {
		var s string
		for range r.IntN(9) {
			s += pieces[r.IntN(len(pieces))]
		}
		l := spots(s)
		want, e := tokensOf(l), api.OK
		if !isRight(l) {
			want, e = nil, api.ErrText
		}
		if e == api.OK {
			fine++
		}
		if got, f := asm.Tokens(s); f != e || !slices.Equal(got, want) {
			t.Errorf("Tokens(%q): %q %d, want %q %d", s, got, f, want, e)
		}
	}
	if fine < 10000 {
		t.Errorf("only %d are right", fine)
	}
}

func TestP7_3Large(t *testing.T) {
	for _, c := range []struct {
		s    string
		want api.Errno
	}{
		{strings.Repeat(" ", api.MaxText), api.OK},
		{strings.Repeat(" ", api.MaxText+1), api.ErrLarge},
		{strings.Repeat("(", api.MaxText), api.OK},
		{strings.Repeat(";", api.MaxText), api.ErrText},
		{strings.Repeat(";", api.MaxText+1), api.ErrLarge},
		{`"` + strings.Repeat("x", api.MaxText), api.ErrLarge},
		{`"` + strings.Repeat("x", api.MaxText-1), api.ErrText},
		{`"` + strings.Repeat("x", api.MaxText-2) + `"`, api.OK},
		{strings.Repeat("-", api.MaxText), api.OK},
		{"//" + strings.Repeat("/", api.MaxText-2), api.OK},
	} {
		got, e := asm.Tokens(c.s)
		if e != c.want || e == api.OK && !slices.Equal(got, tokensOf(spots(c.s))) || e != api.OK && len(got) > 0 {
			t.Errorf("Tokens of %d times %.2s: %d, %d", len(c.s), c.s, len(got), e)
		}
	}
}
