package lexer

import (
	"math/big"
	"regexp"
	"slices"
	"strings"
	"testing"

	"netwright/api"
)

// The tests have tokens of their own: by regular expressions, and with positions that are counted anew for each one, so that no function of the package checks itself.

const reservedWords = "package is end module generic port begin in out vec array of const type signal var function return use process all inst for to generate if else transport after assert report then elsif case when others loop while wait on until null and or xor nand nor xnor not mod shl shr downto"

const allSigns = ":= <= => >= /= = < > + - * / & ( ) : ; ,"

var (
	gapShape  = regexp.MustCompile(`^(?:[ \t\r\n]|--[^\n]*)+`)
	nameShape = regexp.MustCompile(`^[a-zA-Z][a-zA-Z0-9_]*`)
	intShape  = regexp.MustCompile(`^([0-9]+)[a-zA-Z0-9_]?`)
	bitShape  = regexp.MustCompile(`^'([01xz])'`)
	vecShape  = regexp.MustCompile(`^b"([01xz]{1,64})"`)
	textShape = regexp.MustCompile(`^"([ !#-~]{0,60})"`)
	signShape = regexp.MustCompile(`^(?::=|<=|=>|>=|/=|[=<>+\-*/&():;,])`)
)

// expected returns what Lex is to give for a string of at most MaxText bytes.
func expected(s string) ([]api.Token, api.Fault) {
	var tokens []api.Token
	at := len(gapShape.FindString(s))
	for at < len(s) {
		line := 1 + strings.Count(s[:at], "\n")
		col := at - strings.LastIndexByte(s[:at], '\n')
		token, n := expectedFirst(s[at:])
		if n == 0 {
			return nil, api.Fault{Code: api.ErrLex, Name: string([]byte{s[at]}), Line: line, Col: col}
		}
		token.Line, token.Col = line, col
		tokens = append(tokens, token)
		at += n
		at += len(gapShape.FindString(s[at:]))
	}
	return tokens, api.Fault{}
}

// expectedFirst returns the token at the front of s and its length, 0 if there is none.
func expectedFirst(s string) (api.Token, int) {
	if strings.HasPrefix(s, `b"`) {
		return shaped(vecShape, s, api.TokVec)
	}
	if name := nameShape.FindString(s); name != "" {
		if slices.Contains(strings.Fields(reservedWords), name) {
			return api.Token{Op: api.TokWord, Text: name}, len(name)
		}
		if len(name) > 40 {
			return api.Token{}, 0
		}
		return api.Token{Op: api.TokName, Text: name}, len(name)
	}
	if found := intShape.FindStringSubmatch(s); found != nil {
		k, _ := new(big.Int).SetString(found[1], 10)
		if found[0] != found[1] || k.Cmp(big.NewInt(2147483647)) > 0 {
			return api.Token{}, 0
		}
		return api.Token{Op: api.TokInt, N: int(k.Int64())}, len(found[1])
	}
	for op, shape := range map[api.TokOp]*regexp.Regexp{api.TokBit: bitShape, api.TokText: textShape} {
		if token, n := shaped(shape, s, op); n > 0 {
			return token, n
		}
	}
	sign := signShape.FindString(s)
	if sign == "" {
		return api.Token{}, 0
	}
	return api.Token{Op: api.TokSign, Text: sign}, len(sign)
}

// shaped returns the token with what stands between its quotes.
func shaped(shape *regexp.Regexp, s string, op api.TokOp) (api.Token, int) {
	found := shape.FindStringSubmatch(s)
	if found == nil {
		return api.Token{}, 0
	}
	return api.Token{Op: op, Text: found[1]}, len(found[0])
}

// token returns a token without a position.
func token(op api.TokOp, text string) api.Token { return api.Token{Op: op, Text: text} }

func intToken(n int) api.Token { return api.Token{Op: api.TokInt, N: n} }

// at returns a token with a position.
func at(t api.Token, line, col int) api.Token {
	t.Line, t.Col = line, col
	return t
}

// bare returns tokens without their positions.
func bare(l []api.Token) []api.Token {
	var all []api.Token
	for _, t := range l {
		all = append(all, at(t, 0, 0))
	}
	return all
}

// lex returns the tokens of a string that has only tokens.
func lex(t *testing.T, s string) []api.Token {
	t.Helper()
	l, fault := Lex(s)
	if fault != (api.Fault{}) {
		t.Fatalf("Lex(%.80q): fault %v", s, fault)
	}
	return l
}

// textOf returns the string of tokens that are possible.
func textOf(t *testing.T, l []api.Token) string {
	t.Helper()
	s, err := Text(l)
	if err != api.OK {
		t.Fatalf("Text(%.80v): error %d", l, err)
	}
	return s
}

// wantTokens checks that a string has these tokens, with these positions.
func wantTokens(t *testing.T, s string, want ...api.Token) {
	t.Helper()
	got, fault := Lex(s)
	if !slices.Equal(got, want) || fault != (api.Fault{}) {
		t.Errorf("Lex(%.80q) = %v, %v; want %v", s, got, fault, want)
	}
}

// wantBare checks that a string has these tokens, wherever they are.
func wantBare(t *testing.T, s string, want ...api.Token) {
	t.Helper()
	got, fault := Lex(s)
	if !slices.Equal(bare(got), want) || fault != (api.Fault{}) {
		t.Errorf("Lex(%.80q) = %v, %v; want %v", s, got, fault, want)
	}
}

// wantNone checks that in a string no token begins at a byte, the first one of that kind.
func wantNone(t *testing.T, s, name string, line, col int) {
	t.Helper()
	want := api.Fault{Code: api.ErrLex, Name: name, Line: line, Col: col}
	if got, fault := Lex(s); len(got) != 0 || fault != want {
		t.Errorf("Lex(%.80q) = %v, %v; want fault %v", s, got, fault, want)
	}
}

// everyText calls f with all strings of at most n of the parts.
func everyText(n int, parts []string, f func(s string)) {
	f("")
	if n == 0 {
		return
	}
	for _, part := range parts {
		everyText(n-1, parts, func(s string) { f(part + s) })
	}
}

// someTokens returns tokens of each kind, each at the ends of what it can be.
func someTokens() []api.Token {
	all := []api.Token{
		token(api.TokName, "a"), token(api.TokName, "b"), token(api.TokName, "Z"), token(api.TokName, "x_0"), token(api.TokName, "End"),
		token(api.TokName, strings.Repeat("q", 40)),
		intToken(0), intToken(1), intToken(7), intToken(2147483646), intToken(2147483647),
		token(api.TokVec, "1"), token(api.TokVec, "01xz"), token(api.TokVec, strings.Repeat("x1z0", 16)),
		token(api.TokText, ""), token(api.TokText, " "), token(api.TokText, "a-- b"), token(api.TokText, "'~!"), token(api.TokText, strings.Repeat("1", 60)),
	}
	for _, bit := range []string{"0", "1", "x", "z"} {
		all = append(all, token(api.TokBit, bit))
	}
	for _, word := range strings.Fields(reservedWords) {
		all = append(all, token(api.TokWord, word))
	}
	for _, sign := range strings.Fields(allSigns) {
		all = append(all, token(api.TokSign, sign))
	}
	return all
}

// plain returns a possible token as it is written.
func plain(t api.Token) string {
	switch t.Op {
	case api.TokInt:
		return big.NewInt(int64(t.N)).String()
	case api.TokBit:
		return "'" + t.Text + "'"
	case api.TokVec:
		return `b"` + t.Text + `"`
	case api.TokText:
		return `"` + t.Text + `"`
	}
	return t.Text
}
