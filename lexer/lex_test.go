package lexer

import (
	"slices"
	"strconv"
	"strings"
	"testing"

	"netwright/api"
)

func TestP3_1Examples(t *testing.T) {
	wantTokens(t, "q <= b\"10\" & '1'; -- so",
		at(token(api.TokName, "q"), 1, 1), at(token(api.TokSign, "<="), 1, 3), at(token(api.TokVec, "10"), 1, 6),
		at(token(api.TokSign, "&"), 1, 12), at(token(api.TokBit, "1"), 1, 14), at(token(api.TokSign, ";"), 1, 17))
	wantTokens(t, "a<=b", at(token(api.TokName, "a"), 1, 1), at(token(api.TokSign, "<="), 1, 2), at(token(api.TokName, "b"), 1, 4))
	wantNone(t, `b"1`, "b", 1, 1)
	wantNone(t, "12a", "1", 1, 1)
}

// Over all short strings of parts that can meet, Lex gives what the regular expressions give.
func TestP3_1EveryShortString(t *testing.T) {
	parts := []string{"a", "b", "x", "_", "0", "7", `"`, "'", "-", "=", "<", ":", "/", " ", "\n", "!"}
	everyText(4, parts, func(s string) { agree(t, s) })
	parts = []string{"b", `"`, "'", "0", "z"}
	everyText(6, parts, func(s string) { agree(t, s) })
	parts = []string{"if", "end", "a1", "--", "\r", "\t", "\n", "12", `b"10"`, `"--"`, "'x'", ">=", "\x00"}
	everyText(4, parts, func(s string) { agree(t, s) })
}

func agree(t *testing.T, s string) {
	t.Helper()
	want, wantFault := expected(s)
	got, fault := Lex(s)
	if !slices.Equal(got, want) || fault != wantFault {
		t.Errorf("Lex(%q) = %v, %v; want %v, %v", s, got, fault, want, wantFault)
	}
}

func TestP3_1Names(t *testing.T) {
	letters := "abcdefghijklmnopqrstuvwxyzABCDEFGHIJKLMNOPQRSTUVWXYZ"
	for _, letter := range strings.Split(letters, "") {
		wantBare(t, letter, token(api.TokName, letter))
		for _, part := range strings.Split(letters+"0123456789_", "") {
			name := letter + part + "q"
			wantBare(t, name, token(api.TokName, name))
		}
	}
	for _, name := range []string{"a" + strings.Repeat("_", 39), strings.Repeat("Z", 40), "x" + strings.Repeat("9", 38) + "z"} {
		wantBare(t, name, token(api.TokName, name))
		wantBare(t, name+" "+name, token(api.TokName, name), token(api.TokName, name))
		for _, more := range []string{"a", "Z", "0", "_", "aa"} {
			wantNone(t, "\n "+name+more, name[:1], 2, 2)
		}
	}
	wantNone(t, strings.Repeat("n", api.MaxText), "n", 1, 1)
	wantNone(t, "_a", "_", 1, 1)
	wantNone(t, "a __", "_", 1, 3)
}

func TestP3_1Words(t *testing.T) {
	words := strings.Fields(reservedWords)
	if len(words) != 53 {
		t.Fatalf("%d reserved words", len(words))
	}
	for _, word := range words {
		wantBare(t, word, token(api.TokWord, word))
		wantBare(t, word+"("+word, token(api.TokWord, word), token(api.TokSign, "("), token(api.TokWord, word))
		for _, name := range []string{word + "q", word + "_", word + "0", "q" + word, strings.ToUpper(word), strings.ToUpper(word[:1]) + word[1:]} {
			wantBare(t, name, token(api.TokName, name))
		}
	}
	wantBare(t, `end"1"`, token(api.TokWord, "end"), token(api.TokText, "1"))
}

func TestP3_1Ints(t *testing.T) {
	for _, s := range []string{"0", "1", "9", "10", "007", "0000000000", "00", "2147483646", "2147483647", "02147483647", strings.Repeat("0", api.MaxText-10) + "2147483647", strings.Repeat("0", api.MaxText)} {
		k, err := strconv.ParseInt(s, 10, 64)
		if err != nil {
			t.Fatal(err)
		}
		wantTokens(t, s, at(intToken(int(k)), 1, 1))
	}
	for _, s := range []string{"2147483648", "2147483650", "3000000000", "4294967296", "4294967297", "9999999999", "10000000000", "02147483648", "9223372036854775807", "9223372036854775808", "18446744073709551616", "18446744073709551617", strings.Repeat("9", api.MaxText), strings.Repeat("0", 100) + "2147483648"} {
		wantNone(t, s, s[:1], 1, 1)
	}
	for _, more := range []string{"a", "z", "A", "Z", "_", "x10", "e5", "_1", `b"1"`, "if", "0x"} {
		wantNone(t, "1"+more, "1", 1, 1)
		wantNone(t, "a;\n\t2147483647"+more, "2", 2, 2)
	}
	wantBare(t, "-1", token(api.TokSign, "-"), intToken(1))
	wantBare(t, "+1", token(api.TokSign, "+"), intToken(1))
	wantBare(t, `1"2"'0'3`, intToken(1), token(api.TokText, "2"), token(api.TokBit, "0"), intToken(3))
}

func TestP3_1Bits(t *testing.T) {
	for _, bit := range []string{"0", "1", "x", "z"} {
		wantTokens(t, " '"+bit+"'", at(token(api.TokBit, bit), 1, 2))
		wantBare(t, "'"+bit+"''"+bit+"'a", token(api.TokBit, bit), token(api.TokBit, bit), token(api.TokName, "a"))
	}
	for c := range 256 {
		s := "'" + string([]byte{byte(c)}) + "'"
		if !slices.Contains([]string{"'0'", "'1'", "'x'", "'z'"}, s) {
			wantNone(t, s, "'", 1, 1)
		}
	}
	for _, s := range []string{"'", "''", "'0", "'01'", "'0\n'", "'x ", "' 0'", "'0 '", "'X'", "'0\"", "'b\"0\"'", "'00'"} {
		wantNone(t, "a\n"+s, "'", 2, 1)
	}
}

func TestP3_1Vectors(t *testing.T) {
	for _, bits := range []string{"0", "1", "x", "z", "01xz", strings.Repeat("0", 63), strings.Repeat("1", 64), strings.Repeat("zx10", 16)} {
		wantTokens(t, `&b"`+bits+`"`, at(token(api.TokSign, "&"), 1, 1), at(token(api.TokVec, bits), 1, 2))
		wantBare(t, `b"`+bits+`"b"`+bits+`"1`, token(api.TokVec, bits), token(api.TokVec, bits), intToken(1))
	}
	for _, s := range []string{
		`b"`, `b""`, `b"1`, "b\"1\n\"", "b\"1 ", `b"12"`, `b"0 1"`, `b"X"`, `b"0_1"`, `b"a"`, `b"'1'"`, "b\"\t1\"", "b\"1\r\"", "b\"1\x00\"", "b\"\xc3\"",
		`b"` + strings.Repeat("1", 65) + `"`, `b"` + strings.Repeat("1", 128) + `"`, `b"` + strings.Repeat("1", 65), `b"` + strings.Repeat("x", api.MaxText-10),
	} {
		wantNone(t, "q;\n"+s, "b", 2, 1)
	}
}

func TestP3_1LetterB(t *testing.T) {
	b := token(api.TokName, "b")
	wantBare(t, "b", b)
	wantBare(t, "b b", b, b)
	wantBare(t, `b "10"`, b, token(api.TokText, "10"))
	wantBare(t, "b\n\"10\"", b, token(api.TokText, "10"))
	wantBare(t, "b--\"1\"\n\"10\"", b, token(api.TokText, "10"))
	wantBare(t, "b'1'", b, token(api.TokBit, "1"))
	wantBare(t, `B"10"`, token(api.TokName, "B"), token(api.TokText, "10"))
	wantBare(t, `ab"10"`, token(api.TokName, "ab"), token(api.TokText, "10"))
	wantBare(t, `b0"10"`, token(api.TokName, "b0"), token(api.TokText, "10"))
	wantBare(t, `bb"22"`, token(api.TokName, "bb"), token(api.TokText, "22"))
	wantNone(t, `b"22"`, "b", 1, 1)
}

func TestP3_1Strings(t *testing.T) {
	for c := range 256 {
		s := string([]byte{byte(c)})
		if c >= 32 && c <= 126 && c != '"' {
			wantTokens(t, `"`+s+`"`, at(token(api.TokText, s), 1, 1))
			wantBare(t, `"`+strings.Repeat(s, 60)+`""`+s+`"`, token(api.TokText, strings.Repeat(s, 60)), token(api.TokText, s))
			wantNone(t, `"`+strings.Repeat(s, 61)+`"`, `"`, 1, 1)
		} else if c != '"' {
			wantNone(t, `"`+s+`"`, `"`, 1, 1)
			wantNone(t, "; \"ab"+s+"\"", `"`, 1, 3)
		}
	}
	wantBare(t, `""`, token(api.TokText, ""))
	wantBare(t, `""""`, token(api.TokText, ""), token(api.TokText, ""))
	wantBare(t, `"a-- b"--"`, token(api.TokText, "a-- b"))
	for _, s := range []string{`"`, `"a`, "\"a\n\"", "\"\n", `"a -- b`, `"` + strings.Repeat("a", 60), `"` + strings.Repeat("a", api.MaxText-10), "\"a\r\n\"", `"a'`, `"` + strings.Repeat("a", 61) + `"`} {
		wantNone(t, "\n\nx "+s, `"`, 3, 3)
	}
	wantNone(t, `"""`, `"`, 1, 3)
}

func TestP3_1Signs(t *testing.T) {
	signs := strings.Fields(allSigns)
	for _, sign := range signs {
		wantTokens(t, sign, at(token(api.TokSign, sign), 1, 1))
		wantTokens(t, "a"+sign+"'1'", at(token(api.TokName, "a"), 1, 1), at(token(api.TokSign, sign), 1, 2), at(token(api.TokBit, "1"), 1, 2+len(sign)))
	}
	everyText(4, signs[len(signs)-13:], func(s string) { agree(t, s) })
	sign := func(s string) api.Token { return token(api.TokSign, s) }
	wantBare(t, "<=>", sign("<="), sign(">"))
	wantBare(t, "=>=", sign("=>"), sign("="))
	wantBare(t, "==", sign("="), sign("="))
	wantBare(t, ":==", sign(":="), sign("="))
	wantBare(t, "::=", sign(":"), sign(":="))
	wantBare(t, "/ =//=", sign("/"), sign("="), sign("/"), sign("/="))
	wantBare(t, "<\n=", sign("<"), sign("="))
	wantBare(t, "- -", sign("-"), sign("-"))
	wantBare(t, "->", sign("-"), sign(">"))
}

// The bytes at which no token can begin are all but those of names, ints, quotes, signs and blanks.
func TestP3_1NoToken(t *testing.T) {
	for c := range 256 {
		s := string([]byte{byte(c)})
		if strings.Contains("\t\n\r &'()*+,-/:;<=>\"", s) || nameShape.MatchString(s) || intShape.MatchString(s) {
			continue
		}
		wantNone(t, s, s, 1, 1)
		wantNone(t, "a <= 1;\n  "+s+" !", s, 2, 3)
		wantNone(t, "a "+s, s, 1, 3)
	}
	wantNone(t, "\u00e4", "\xc3", 1, 1)
	wantNone(t, "1 b\"1 '", "b", 1, 3)
	wantNone(t, "'1' 12a !", "1", 1, 5)
}

func TestP3_1Comments(t *testing.T) {
	for _, s := range []string{"--", "-- a", "---", "----", "--\n", "--\r\n", "-- \"a\n", "--'\n--\n", "\n--", " --\x00\xff!\n ", "--b\"1", strings.Repeat("-", api.MaxText), "--" + strings.Repeat("a", 100)} {
		wantTokens(t, s)
	}
	a, b := token(api.TokName, "a"), token(api.TokName, "b")
	wantTokens(t, "a--b", at(a, 1, 1))
	wantTokens(t, "a--!\nb", at(a, 1, 1), at(b, 2, 1))
	wantTokens(t, "a -- \r b\n\n --\n  b--", at(a, 1, 1), at(b, 4, 3))
	wantTokens(t, "--a\n--b\na", at(a, 3, 1))
	wantTokens(t, "a- --\n-b", at(a, 1, 1), at(token(api.TokSign, "-"), 1, 2), at(token(api.TokSign, "-"), 2, 1), at(b, 2, 2))
	wantNone(t, "--!\n!", "!", 2, 1)
}

func TestP3_1Blanks(t *testing.T) {
	for _, s := range []string{"", " ", "\t", "\r", "\n", " \t\r\n\r\n", strings.Repeat(" ", api.MaxText), strings.Repeat("\n", api.MaxText)} {
		wantTokens(t, s)
	}
	a, b := token(api.TokName, "a"), token(api.TokName, "b")
	wantTokens(t, "\t a\rb", at(a, 1, 3), at(b, 1, 5))
	wantTokens(t, "\r\na\n\rb\n", at(a, 2, 1), at(b, 3, 2))
	wantTokens(t, strings.Repeat("\n", api.MaxText-2)+" a", at(a, api.MaxText-1, 2))
	wantTokens(t, strings.Repeat("\t", api.MaxText-1)+"b", at(b, 1, api.MaxText))
	for _, blank := range []string{"\v", "\f", "\u00a0", "\x85", "\x1f", "\x7f"} {
		wantNone(t, "a"+blank+"b", blank[:1], 1, 2)
	}
}

func TestP3_1Limit(t *testing.T) {
	wantTokens(t, "")
	signs := strings.Repeat(";", api.MaxText)
	if l := lex(t, signs); len(l) != api.MaxText || l[api.MaxText-1] != at(token(api.TokSign, ";"), 1, api.MaxText) {
		t.Errorf("%d tokens of %d signs", len(l), api.MaxText)
	}
	for _, s := range []string{signs + ";", signs + " ", strings.Repeat(" ", api.MaxText+1), "!" + signs, strings.Repeat("\n", 1<<20), strings.Repeat("-", api.MaxText+1)} {
		if l, fault := Lex(s); len(l) != 0 || fault != (api.Fault{Code: api.ErrLimit}) {
			t.Errorf("Lex of %d bytes = %d tokens, %v", len(s), len(l), fault)
		}
	}
	wantNone(t, signs[1:]+"!", "!", 1, api.MaxText)
}
