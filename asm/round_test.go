package asm_test

import (
	"fmt"
	"slices"
	"strings"
	"testing"

	"demotic/api"
	"demotic/asm"
)

func TestP7_5ThereAndBack(t *testing.T) {
	for _, m := range append(rightModules(), everyPartModule(), sized(api.MaxText)) {
		s, e := asm.Print(m)
		if e != api.OK {
			t.Fatalf("Print: %d", e)
		}
		if got, e := asm.Parse(s); !equal(got, m) || e != api.OK {
			t.Errorf("Parse of %s: %s %d", s, said(got), e)
		}
		if got, e := asm.Canonical(s); got != s || e != api.OK {
			t.Errorf("Canonical of %s: %s %d", s, got, e)
		}
		if line, e := asm.Where(s); line != 0 || e != api.OK {
			t.Errorf("Where of %s: %d %d", s, line, e)
		}
		tokens, e := asm.Tokens(s)
		if !slices.Equal(tokens, tokensOf(spots(s))) || e != api.OK {
			t.Errorf("Tokens of %s: %q %d", s, tokens, e)
		}
	}
}

// renamed is the string of a function with other names. Only those of a function, or a region, are different from each other.
func (k *maker) renamed(f api.Op) string {
	values, blocks := map[int]string{}, map[string]string{}
	name := func(l []string) string {
		for {
			s := pick(k, words("a b x Y _ 0 1 2 3 07 zz_9 i8 A_long_name_of_a_value"))
			for slices.Contains(l, s) {
				s += pick(k, words("0 1 a _ Z"))
			}
			return s
		}
	}
	s := style{
		value: func(n int) string {
			if values[n] == "" {
				var taken []string
				for _, other := range values {
					taken = append(taken, other)
				}
				values[n] = name(taken)
			}
			return values[n]
		},
		block: func(where string, n int) string {
			key := said(where, n)
			if blocks[key] == "" {
				var taken []string
				for other, s := range blocks {
					if strings.HasPrefix(other, where) {
						taken = append(taken, s)
					}
				}
				blocks[key] = name(taken)
			}
			return blocks[key]
		},
	}
	text, _ := functionText(f, s)
	return text
}

// spread puts gaps between tokens, which are empty only where the tokens stay apart without them.
func (k *maker) spread(tokens []string) string {
	var s strings.Builder
	for i, token := range tokens {
		gap := pick(k, []string{"", "", "", " ", "  ", "\n", "// c\n", " // \" ; /\n \n", "//\n", "\n\n"})
		if gap == "" && i > 0 && token != "" && letters.MatchString(token) && letters.MatchString(tokens[i-1]) {
			gap = " "
		}
		s.WriteString(gap + token)
	}
	return s.String() + pick(k, []string{"", " ", "\n", "// the end", "//\n"})
}

// disguised is a text of a module with other names, comments and blanks.
func (k *maker) disguised(m api.Module) string {
	var s string
	for _, f := range m.Ops {
		s += k.renamed(f)
	}
	return k.spread(tokensOf(spots(s)))
}

func TestP7_6Disguised(t *testing.T) {
	for i, m := range rightModules() {
		for seed := range uint64(4) {
			s := ranMaker(uint64(i)*100 + seed).disguised(m)
			hold(t, s, verdict{m: m, e: api.OK})
		}
	}
}

// oddTokens are put where others stand. An empty one stands for no token.
var oddTokens = append(words(`( ) [ ] { } , = : -> %0 %1 %zz % %a.b ^0 ^1 ^q ^ i8 i65 index !a.b !a 5 -1 05 - @f @F a A "t.a" "x" "\q" "\x41" "\x00" "x\"" mem<4xi8> arr<1001xi8> func.func "func.func" ; / "`), "", "\t", "\"a\nb\"", "é", `"a`)

// change changes a list of tokens at one place.
func (k *maker) change(tokens []string) []string {
	l := slices.Clone(tokens)
	if len(l) == 0 {
		return []string{pick(k, oddTokens)}
	}
	i, j := k.next(len(l)), k.next(len(l))
	switch k.next(20) {
	case 0:
		return slices.Delete(l, i, i+1)
	case 1:
		return slices.Insert(l, i, pick(k, oddTokens))
	case 2:
		l[i] = pick(k, oddTokens)
	case 3:
		l[i], l[j] = l[j], l[i]
	case 4:
		l[i] = l[j]
	case 5:
		return slices.Insert(l, i, l[j])
	case 6:
		return slices.Concat(l[:i], l[i:min(len(l), i+1+k.next(12))], l[i:])
	case 7:
		return l[:i]
	default:
		// Another token of the same kind can stand there.
		var like []string
		for _, s := range slices.Concat(l, oddTokens) {
			if kindOf(s) == kindOf(l[i]) {
				like = append(like, s)
			}
		}
		l[i] = pick(k, like)
	}
	return l
}

// kindOf returns of which kind a token is.
func kindOf(s string) string {
	for _, kind := range words("NAME VALUE BLOCK NUMBER TYPE SINGLE KEY") {
		if fits(kind, s) {
			return kind
		}
	}
	return ""
}

// Texts that are one to three changes away from right ones are what the second reading says.
func TestChanged(t *testing.T) {
	t.Parallel()
	seen := map[string]int{}
	for seed := range uint64(2500) {
		k := ranMaker(seed)
		k.budget = 1 + k.next(6)
		m := k.module()
		if seed%5 == 0 {
			m = example()
		}
		tokens := tokensOf(spots(k.disguised(m)))
		for range 1 + k.next(3) {
			tokens = k.change(tokens)
		}
		s := k.spread(tokens)
		want := verdictOn(s)
		seen[fmt.Sprint(want.e, want.line > 0)]++
		hold(t, s, want)
		if got, e := asm.Tokens(s); isRight(spots(s)) != (e == api.OK) || e == api.OK && !slices.Equal(got, tokensOf(spots(s))) {
			t.Errorf("Tokens(%q): %q %d", s, got, e)
		}
	}
	for _, kind := range []string{"0 false", "30 false", "70 false", "70 true"} {
		if seen[kind] < 10 {
			t.Errorf("%d times %s", seen[kind], kind)
		}
	}
}

// Each beginning and each end of a text, and each text with another byte, is what the second reading says.
func TestChangedBytes(t *testing.T) {
	t.Parallel()
	for _, s := range []string{exampleText, everyPart} {
		for i := range s {
			hold(t, s[:i], verdictOn(s[:i]))
			hold(t, s[i:], verdictOn(s[i:]))
			for _, b := range []string{"", "\n", `"`, "-"} {
				changed := s[:i] + b + s[i+1:]
				hold(t, changed, verdictOn(changed))
			}
		}
	}
}
