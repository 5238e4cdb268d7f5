package lexer

import (
	"slices"
	"strings"
	"testing"

	"netwright/api"
)

// samples are strings that have tokens of all kinds, close together and apart.
func samples() []string {
	return []string{
		"", "a", "-- only a comment",
		"q <= b\"10\" & '1'; -- so\n\tx9:=007 \"a-- b\"",
		"module m generic(n:int:=4)port(a:in vec(n);q:out vec(n))is\nbegin\n q<=not a after 2;--c\nend;\r\n",
		"f(a,b)(3 downto 0)>=b\"0000\"and'x'/=c",
		"a<b>c=d<=e>=f=>g:=h:i/j/=k*l+m-n&o",
		"b\"x\"b\"z\"\"\"\"b\"'0''1'b b",
	}
}

func TestP3_4TokensBack(t *testing.T) {
	for _, one := range someTokens() {
		wantBare(t, textOf(t, []api.Token{one}), one)
		for _, two := range someTokens() {
			l := []api.Token{one, two}
			if got := bare(lex(t, textOf(t, l))); !slices.Equal(got, l) {
				t.Errorf("Lex of Text of %v = %v", l, got)
			}
		}
	}
	all := someTokens()
	for len(textOf(t, append(all, someTokens()...))) <= api.MaxText {
		all = append(all, someTokens()...)
	}
	wantBare(t, textOf(t, all), all...)
}

// A text of tokens that has exactly MaxText bytes is read; with one byte more it is not.
func TestP3_4Longest(t *testing.T) {
	l := append(slices.Repeat([]api.Token{token(api.TokSign, ";")}, api.MaxText/2-1), token(api.TokSign, "<="))
	if s := textOf(t, l); len(s) != api.MaxText || !slices.Equal(bare(lex(t, s)), l) {
		t.Errorf("a text of %d bytes is not read as its tokens", len(s))
	}
	l[0] = token(api.TokSign, ":=")
	if got, fault := Lex(textOf(t, l)); len(got) != 0 || fault != (api.Fault{Code: api.ErrLimit}) {
		t.Errorf("Lex of a text that is too long: %d tokens, %v", len(got), fault)
	}
}

func TestP3_4StringsBack(t *testing.T) {
	back := func(s string) {
		l, fault := Lex(s)
		if fault.Code != api.OK {
			return
		}
		written := textOf(t, l)
		if len(written) > api.MaxText {
			return
		}
		if again := lex(t, written); !slices.Equal(bare(again), bare(l)) {
			t.Errorf("Lex of Text of %q = %v; before %v", s, again, l)
		} else if other := textOf(t, again); other != written {
			t.Errorf("Text of Lex of %q = %q", written, other)
		}
	}
	for _, s := range samples() {
		back(s)
	}
	everyText(4, []string{"a", "b", "0", `"`, "'", "-", "=", "<", " ", "\n", "end"}, back)
	back(strings.Repeat(";", api.MaxText))
	back(strings.Repeat("b\"1\"", api.MaxText/4))
}

func TestP3_5Blanks(t *testing.T) {
	for _, s := range samples() {
		l := lex(t, s)
		for _, blank := range []string{" ", "\t", "\n", "\r", "\r\n", " \t \n\n ", " --\n", "\t-- \"b\"1 '!\n\t"} {
			var spread strings.Builder
			spread.WriteString(blank)
			for _, one := range l {
				spread.WriteString(plain(one) + blank)
			}
			wantBare(t, spread.String(), bare(l)...)
		}
	}
}

// More blanks where there is one already change only positions.
func TestP3_5More(t *testing.T) {
	for _, s := range samples() {
		l := lex(t, s)
		for i := range l {
			place := offset(s, l[i])
			for _, blank := range []string{" ", "\t", "\n", "\t\n "} {
				wantBare(t, s[:place]+blank+s[place:], bare(l)...)
			}
		}
	}
}

// offset returns where in a string a position is.
func offset(s string, t api.Token) int {
	start := 0
	for range t.Line - 1 {
		start += strings.IndexByte(s[start:], '\n') + 1
	}
	return start + t.Col - 1
}

// standsAt reports whether a string begins with a token, an int with leading 0s or without.
func standsAt(s string, one api.Token) bool {
	if one.Op != api.TokInt {
		return strings.HasPrefix(s, plain(one))
	}
	digits := intShape.FindString(s)
	return digits != "" && strings.TrimLeft(digits, "0") == strings.TrimLeft(plain(one), "0")
}

func TestP3_6Positions(t *testing.T) {
	check := func(s string) {
		l, _ := Lex(s)
		last := -1
		for _, one := range l {
			place := offset(s, one)
			if place <= last || place >= len(s) || one.Line < 1 || one.Col < 1 {
				t.Fatalf("in %q the token %v is at %d, after %d", s, one, place, last)
			}
			if !standsAt(s[place:], one) {
				t.Errorf("in %q the token %v is not at its position", s, one)
			}
			last = place
		}
	}
	for _, s := range samples() {
		check(s)
		check(strings.ReplaceAll(s, " ", "\n\n "))
		check(strings.ReplaceAll(s, " ", " --\t\n\r"))
	}
	everyText(4, []string{"a", "b", "00", "7", `"`, "'", "-", "<", "=", " ", "\n", "\r", "\t"}, check)
}

// The position of a fault is that of the byte that it names.
func TestP3_6Faults(t *testing.T) {
	everyText(4, []string{"a", "b", "7", `"`, "'", "-", "!", " ", "\n", "\xff"}, func(s string) {
		_, fault := Lex(s)
		if fault == (api.Fault{}) {
			return
		}
		place := offset(s, api.Token{Line: fault.Line, Col: fault.Col})
		if fault.Code != api.ErrLex || fault.Name != s[place:place+1] {
			t.Errorf("Lex(%q): fault %v", s, fault)
		}
		if _, before := Lex(s[:place]); before != (api.Fault{}) {
			t.Errorf("Lex(%q): %v comes before %v", s, before, fault)
		}
	})
}
