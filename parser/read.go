package parser

import (
	"slices"
	"strings"

	"netwright/api"
	"netwright/expr"
	"netwright/lexer"
	"netwright/tokens"
)

// fewTokens is how many tokens package expr is given at first: it looks at all of them for each expression.
const fewTokens = 32

// parser reads a string by the rules of the grammar. A rule that cannot go on panics with the fault.
type parser struct {
	tokens.Reader
	depth int // how many statements with bodies, and generate statements, are open
}

// newParser returns a parser of a string. An error of the lexer is where the tokens before it end, as it counts only if they can go on there.
func newParser(s string) *parser {
	l, end := lexer.Lex(s)
	if end.Code == api.OK {
		end = endOf(s)
	} else {
		l, _ = lexer.Lex(s[:offset(s, end)])
	}
	return &parser{Reader: tokens.Reader{List: l, End: end}}
}

// endOf returns the fault behind the last byte of a string.
func endOf(s string) api.Fault {
	return api.Fault{Code: api.ErrEnd, Line: strings.Count(s, "\n") + 1, Col: len(s) - strings.LastIndexByte(s, '\n')}
}

// offset returns the index of the byte at which a fault is.
func offset(s string, f api.Fault) int {
	line := 0
	for range f.Line - 1 {
		line += strings.IndexByte(s[line:], '\n') + 1
	}
	return line + f.Col - 1
}

// part reads what a function of package expr reads.
func part[T any](p *parser, read func([]api.Token, int) (T, int, api.Fault)) T {
	rest := p.List[p.At:]
	for count := fewTokens; ; count *= 2 {
		few := rest[:min(count, len(rest))]
		result, next, f := read(few, 0)
		// What comes to the end of the few tokens may go on behind it.
		isCut := f.Code == api.ErrEnd || next == len(few)
		switch {
		case isCut && len(few) < len(rest):
			continue
		case f.Code == api.ErrEnd:
			panic(p.End)
		case f.Code != api.OK:
			panic(f)
		}
		p.At += next
		return result
	}
}

// until reads items up to one of the words behind them.
func until[T any](p *parser, item func() T, words ...string) []T {
	var l []T
	for !slices.ContainsFunc(words, p.Sees) {
		next := item()
		l = append(l, next)
	}
	return l
}

// row reads items with a sign between them.
func row[T any](p *parser, item func() T, sign string) []T {
	l := []T{item()}
	for p.Accept(sign) {
		next := item()
		l = append(l, next)
	}
	return l
}

// bracketed reads items in brackets, with a sign between them.
func bracketed[T any](p *parser, item func() T, sign string) []T {
	p.Expect("(")
	l := row(p, item, sign)
	p.Expect(")")
	return l
}

// ports reads what belongs to the word port: a row in brackets, which may have nothing in it.
func ports[T any](p *parser, item func() T, sign string) []T {
	var l []T
	p.Expect("port")
	p.Expect("(")
	if !p.Sees(")") {
		l = row(p, item, sign)
	}
	p.Expect(")")
	return l
}

// nested reads a body that is one deeper than the statement that opens it, up to one of the words behind it.
func nested[T any](p *parser, opener api.Token, item func() T, words ...string) []T {
	if p.depth == api.MaxNest {
		panic(tokens.FaultAt(opener, api.ErrDeep))
	}
	p.depth++
	l := until(p, item, words...)
	p.depth--
	return l
}

func (p *parser) name() string { return p.Need(api.TokName).Text }

// named reads a name as an expression.
func (p *parser) named() api.Expr {
	t := p.Need(api.TokName)
	return api.Expr{Op: api.EName, Name: t.Text, Line: t.Line, Col: t.Col}
}

func (p *parser) expression() api.Expr { return part(p, expr.Parse) }

// optional reads the expression behind a word or sign, if that is there.
func (p *parser) optional(word string) []api.Expr {
	if !p.Accept(word) {
		return nil
	}
	return []api.Expr{p.expression()}
}

// counter reads what the loops and the generate statements over numbers have in common.
func (p *parser) counter() (name string, first, last api.Expr) {
	name = p.name()
	p.Expect("in")
	first = p.expression()
	p.Expect("to")
	last = p.expression()
	return name, first, last
}
