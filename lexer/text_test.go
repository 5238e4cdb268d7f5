package lexer

import (
	"math"
	"slices"
	"strings"
	"testing"

	"netwright/api"
)

func TestP3_2Text(t *testing.T) {
	for _, l := range [][]api.Token{nil, {}} {
		if s, err := Text(l); s != "" || err != api.OK {
			t.Errorf("Text of no token = %q, %d", s, err)
		}
	}
	var all []string
	for _, one := range someTokens() {
		all = append(all, plain(one))
		if got, err := Text([]api.Token{one}); got != plain(one) || err != api.OK {
			t.Errorf("Text(%v) = %q, %d", one, got, err)
		}
	}
	want := strings.Join(all, " ")
	if got, err := Text(someTokens()); got != want || err != api.OK {
		t.Errorf("Text = %q, %d; want %q", got, err, want)
	}
}

// What stands close together in a string, and what may be read as something else, is written with one blank between.
func TestP3_2Blanks(t *testing.T) {
	for s, want := range map[string]string{
		"q<=b\"10\"&'1';--so": `q <= b"10" & '1' ;`,
		"a\n\n  :=007":        "a := 7",
		"b \"1\"":             `b "1"`,
		"< =":                 "< =",
		"- -1":                "- - 1",
		"vec(3)":              "vec ( 3 )",
	} {
		if got := textOf(t, lex(t, s)); got != want {
			t.Errorf("Text of %q = %q; want %q", s, got, want)
		}
	}
}

func TestP3_2Position(t *testing.T) {
	for _, place := range [][2]int{{0, 0}, {1, 1}, {-1, -5}, {math.MinInt, math.MaxInt}, {7, 0}} {
		l := []api.Token{at(token(api.TokName, "a"), place[0], place[1]), at(intToken(3), place[1], place[0])}
		if got, err := Text(l); got != "a 3" || err != api.OK {
			t.Errorf("Text at %v = %q, %d", place, got, err)
		}
	}
}

// impossible returns tokens that Lex never gives.
func impossible() []api.Token {
	texts := map[api.TokOp][]string{
		api.TokName: {"", "end", "shr", "_", "_a", "0", "1a", "a b", " a", "a ", "a;", "a--", "a\n", "\u00e4", "a\x00", strings.Repeat("a", 41), "b\"1\"", "a\"\"", "<="},
		api.TokWord: {"", "ende", "End", "a", "in out", " is", "is ", "IS", "1", "name", "expr", "bit", "true"},
		api.TokInt:  {"0", "1", " ", "a"},
		api.TokBit:  {"", "2", "01", "X", "'", "0'", "'0'", " ", "b", "0' '1"},
		api.TokVec:  {"", "2", "0 1", "X", "1\"", "\"", "1_0", "1\n", "1\" b\"0", strings.Repeat("1", 65), strings.Repeat("1", 100000)},
		api.TokText: {"\"", "a\"", "\"a", "\n", "a\tb", "\x1f", "\x7f", "\u00e4", "a\" \"b", strings.Repeat("a", 61), strings.Repeat(" ", 100000)},
		api.TokSign: {"", "!", "--", "==", "<>", "::", " =", "= ", "=;", "a", "0", ".", "'", "\"", "\"\"", "-- a", ":= ", "<=>", "=>="},
	}
	var all []api.Token
	for op, list := range texts {
		for _, s := range list {
			all = append(all, token(op, s))
		}
	}
	for _, n := range []int{-1, -2147483648, 2147483648, 1 << 32, 1<<32 + 1, math.MaxInt, math.MinInt} {
		all = append(all, intToken(n))
	}
	for _, one := range someTokens() {
		for _, op := range []api.TokOp{0, -1, 8, 100, math.MinInt, math.MaxInt} {
			all = append(all, api.Token{Op: op, Text: one.Text, N: one.N})
		}
		if one.Op != api.TokInt {
			for _, n := range []int{1, -1, 7} {
				all = append(all, api.Token{Op: one.Op, Text: one.Text, N: n})
			}
		}
	}
	return all
}

func TestP3_2TextRefuses(t *testing.T) {
	good := token(api.TokSign, ";")
	for _, bad := range impossible() {
		for _, l := range [][]api.Token{{bad}, {at(bad, 1, 1)}, {good, bad}, {bad, good}, {good, bad, good}} {
			if s, err := Text(l); s != "" || err != api.ErrArg {
				t.Errorf("Text(%.80v) = %.80q, %d", l, s, err)
			}
		}
	}
}

// What is a text of one kind of tokens is one of another kind only where it has the form of that kind too.
func TestP3_2OtherKinds(t *testing.T) {
	words, signs := strings.Fields(reservedWords), strings.Fields(allSigns)
	possible := map[api.TokOp]func(s string) bool{
		api.TokName: func(s string) bool {
			return s != "" && len(s) <= 40 && nameShape.FindString(s) == s && !slices.Contains(words, s)
		},
		api.TokWord: func(s string) bool { return slices.Contains(words, s) },
		api.TokInt:  func(s string) bool { return s == "" },
		api.TokBit:  func(s string) bool { return bitShape.FindString("'"+s+"'") == "'"+s+"'" },
		api.TokVec:  func(s string) bool { return vecShape.FindString(`b"`+s+`"`) == `b"`+s+`"` },
		api.TokText: func(s string) bool { return textShape.FindString(`"`+s+`"`) == `"`+s+`"` },
		api.TokSign: func(s string) bool { return slices.Contains(signs, s) },
	}
	for _, one := range append(someTokens(), impossible()...) {
		for op := api.TokName; op <= api.TokSign; op++ {
			want := api.ErrArg
			if possible[op](one.Text) {
				want = api.OK
			}
			if _, err := Text([]api.Token{token(op, one.Text)}); err != want {
				t.Errorf("Text(%.80v): error %d; want %d", token(op, one.Text), err, want)
			}
		}
	}
}

func TestP3_2Limit(t *testing.T) {
	long := token(api.TokVec, strings.Repeat("z", 64))
	l := slices.Repeat([]api.Token{long}, api.MaxText)
	want := strings.Repeat(plain(long)+" ", api.MaxText)
	if s, err := Text(l); s != want[:len(want)-1] || err != api.OK {
		t.Errorf("Text of %d tokens: %d bytes, error %d", len(l), len(s), err)
	}
	for _, more := range [][]api.Token{append(l, long), append(slices.Clone(l), api.Token{}), make([]api.Token, 1<<20)} {
		if s, err := Text(more); s != "" || err != api.ErrArg {
			t.Errorf("Text of %d tokens: %d bytes, error %d", len(more), len(s), err)
		}
	}
}

func TestP3_2Keeps(t *testing.T) {
	l := someTokens()
	textOf(t, l)
	if !slices.Equal(l, someTokens()) {
		t.Error("Text changes its argument")
	}
	first, second := lex(t, "a b"), lex(t, "a b")
	first[0].Text = "c"
	if second[0].Text != "a" || lex(t, "a b")[0].Text != "a" {
		t.Error("results of Lex share memory")
	}
}

func TestP3_3IsName(t *testing.T) {
	for _, s := range []string{"a", "Z", "b", "q9", "a_", "a__1", "End", "END", "ende", "vec1", "bit", "bool", "int", "true", "rising", "to_int", "name", strings.Repeat("a", 39), strings.Repeat("a", 40)} {
		if !IsName(s) {
			t.Errorf("IsName(%q) is false", s)
		}
	}
	none := []string{"", "_", "_a", "0", "9a", "a b", " a", "a ", "a\n", "a-", "a.b", "a(0)", "\u00e4", "a\u00e4", "a\x00", "b\"1\"", "'0'", "<=", strings.Repeat("a", 41), strings.Repeat("a", 1000000)}
	for _, s := range append(none, strings.Fields(reservedWords)...) {
		if IsName(s) {
			t.Errorf("IsName(%.50q) is true", s)
		}
	}
	for c := range 256 {
		s := string([]byte{byte(c)})
		if want := len(nameShape.FindString(s)) == 1; IsName(s) != want {
			t.Errorf("IsName(%q) is not %v", s, want)
		}
		if want := len(nameShape.FindString("a"+s)) == 2; IsName("a"+s) != want || IsName("a"+s+"0") != want {
			t.Errorf("IsName(%q) is not %v", "a"+s, want)
		}
	}
}

func TestP3_3IsWord(t *testing.T) {
	for _, s := range strings.Fields(reservedWords) {
		if !IsWord(s) {
			t.Errorf("IsWord(%q) is false", s)
		}
		for _, other := range []string{s + " ", " " + s, s + "s", s[1:] + "_", strings.ToUpper(s), s + s, s + "\n"} {
			if IsWord(other) {
				t.Errorf("IsWord(%q) is true", other)
			}
		}
	}
	for _, s := range []string{"", " ", "a", "name", "expr", "bit", "bool", "int", "true", "false", "rising", "falling", "is end", "package is", "0", ":=", "\u00e4", reservedWords, strings.Repeat("a", 1000000)} {
		if IsWord(s) {
			t.Errorf("IsWord(%.50q) is true", s)
		}
	}
}
