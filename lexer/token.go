package lexer

import (
	"math"
	"strconv"
	"strings"

	"netwright/api"
)

const (
	vectorQuote = `b"`
	textQuote   = `"`
	bitQuote    = `'`
)

// maxString is the most bytes of a string between double quotes.
const maxString = 60

// first returns the token at the front of s, without a position, and how many bytes it has: 0 if no token begins there.
func first(s string) (api.Token, int) {
	switch {
	case s == "":
		return api.Token{}, 0
	// A quote behind b is looked for first: there b is never a name.
	case strings.HasPrefix(s, vectorQuote):
		return quoted(s, vectorQuote, textQuote, api.TokVec, isVector)
	case s[0] == '"':
		return quoted(s, textQuote, textQuote, api.TokText, isString)
	case s[0] == '\'':
		return quoted(s, bitQuote, bitQuote, api.TokBit, isBit)
	case isLetter(s[0]):
		return word(s[:wordLength(s)])
	case isDigit(s[0]):
		return number(s[:wordLength(s)])
	}
	n := signLength(s)
	if n == 0 {
		return api.Token{}, 0
	}
	return api.Token{Op: api.TokSign, Text: s[:n]}, n
}

// quoted returns the token that begins with the quote before and has valid content up to the next quote behind.
func quoted(s, before, behind string, op api.TokOp, valid func(string) bool) (api.Token, int) {
	content, _, closed := strings.Cut(s[len(before):], behind)
	if !closed || !valid(content) {
		return api.Token{}, 0
	}
	return api.Token{Op: op, Text: content}, len(before) + len(content) + len(behind)
}

// word returns the token that is all of s, a letter and what may follow it in a name.
func word(s string) (api.Token, int) {
	switch {
	case IsWord(s):
		return api.Token{Op: api.TokWord, Text: s}, len(s)
	case IsName(s):
		return api.Token{Op: api.TokName, Text: s}, len(s)
	}
	return api.Token{}, 0
}

// number returns the int that is all of s: with a letter or _ in it, it is none.
func number(s string) (api.Token, int) {
	n, err := strconv.Atoi(s)
	if err != nil || n > math.MaxInt32 {
		return api.Token{}, 0
	}
	return api.Token{Op: api.TokInt, N: n}, len(s)
}

// isPossible reports whether Lex can give a token: what is written for it is then read as the same one.
func isPossible(t api.Token) bool {
	s := written(t)
	token, n := first(s)
	token.Line, token.Col = t.Line, t.Col
	return n > 0 && n == len(s) && token == t
}

// written returns a token as it is written in a string.
func written(t api.Token) string {
	switch t.Op {
	case api.TokInt:
		return strconv.Itoa(t.N)
	case api.TokBit:
		return bitQuote + t.Text + bitQuote
	case api.TokVec:
		return vectorQuote + t.Text + textQuote
	case api.TokText:
		return textQuote + t.Text + textQuote
	}
	return t.Text
}

// wordLength returns how many bytes at the front of s can be in a name.
func wordLength(s string) int {
	for i := range len(s) {
		if !isLetter(s[i]) && !isDigit(s[i]) && s[i] != '_' {
			return i
		}
	}
	return len(s)
}

// signLength returns how many bytes the longest sign at the front of s has.
func signLength(s string) int {
	if len(s) >= 2 {
		switch s[:2] {
		case ":=", "<=", "=>", ">=", "/=":
			return 2
		}
	}
	if strings.IndexByte("=<>+-*/&():;,", s[0]) >= 0 {
		return 1
	}
	return 0
}

func isLetter(c byte) bool { return c >= 'a' && c <= 'z' || c >= 'A' && c <= 'Z' }

func isDigit(c byte) bool { return c >= '0' && c <= '9' }

func isBit(s string) bool { return len(s) == 1 && hasBits(s) }

func isVector(s string) bool { return len(s) >= 1 && len(s) <= api.MaxVec && hasBits(s) }

func hasBits(s string) bool {
	for i := range len(s) {
		if strings.IndexByte("01xz", s[i]) < 0 {
			return false
		}
	}
	return true
}

// isString reports whether s can stand between double quotes; no double quote comes here.
func isString(s string) bool {
	for i := range len(s) {
		if s[i] < ' ' || s[i] > '~' {
			return false
		}
	}
	return len(s) <= maxString
}
