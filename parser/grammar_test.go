package parser

import (
	"slices"
	"strconv"
	"strings"
	"testing"

	"netwright/api"
	"netwright/lexer"
)

// grammar is that of the document, but for the type of an array's elements, which is no array (chapter 5).
const grammar = `
    design   = { unit }
    unit     = "package" name "is" { decl } "end" ";"
             | "module" name [ "generic" "(" param { ";" param } ")" ] "port" "(" [ port { ";" port } ] ")" "is" { decl } "begin" { conc } "end" ";"
    param    = name ":" type [ ":=" expr ]
    arg      = name ":" type
    port     = name ":" ( "in" | "out" ) type
    type     = simple | "array" "(" expr ")" "of" simple
    simple   = name | "vec" "(" expr ")"
    decl     = "const" name ":" type ":=" expr ";"
             | "type" name "is" "(" name { "," name } ")" ";"
             | "signal" name ":" type [ ":=" expr ] ";"
             | "var" name ":" type [ ":=" expr ] ";"
             | "function" name "(" arg { ";" arg } ")" "return" type "is" { decl } "begin" { stmt } "end" ";"
             | "use" name ";"
    conc     = name ":" "process" [ "(" ( "all" | name { "," name } ) ")" ] "is" { decl } "begin" { stmt } "end" ";"
             | name ":" "inst" name [ "generic" "(" expr { "," expr } ")" ] "port" "(" [ expr { "," expr } ] ")" ";"
             | name ":" "for" name "in" expr "to" expr "generate" { conc } "end" ";"
             | name ":" "if" expr "generate" { conc } [ "else" { conc } ] "end" ";"
             | target "<=" [ "transport" ] wave { "," wave } ";"
             | "assert" expr "report" text ";"
    wave     = expr [ "after" expr ]
    target   = name { "(" expr [ "downto" expr ] ")" }
    stmt     = target ":=" expr ";"
             | target "<=" [ "transport" ] wave { "," wave } ";"
             | "if" expr "then" { stmt } { "elsif" expr "then" { stmt } } [ "else" { stmt } ] "end" ";"
             | "case" expr "is" { "when" expr { "," expr } "=>" { stmt } } [ "others" "=>" { stmt } ] "end" ";"
             | "for" name "in" expr "to" expr "loop" { stmt } "end" ";"
             | "while" expr "loop" { stmt } "end" ";"
             | "wait" [ "on" name { "," name } ] [ "until" expr ] [ "for" expr ] ";"
             | "return" expr ";"
             | "assert" expr "report" text ";"
             | "null" ";"
    expr     = rel { ( "and" | "or" | "xor" | "nand" | "nor" | "xnor" ) rel }
    rel      = sum [ ( "=" | "/=" | "<" | "<=" | ">" | ">=" ) sum ]
    sum      = term { ( "+" | "-" | "&" ) term }
    term     = factor { ( "*" | "/" | "mod" | "shl" | "shr" ) factor }
    factor   = ( "not" | "-" ) factor | primary
    primary  = ( int | bit | vector | name [ "(" expr { "," expr } ")" ] | "(" expr ")" ) { "(" expr [ "downto" expr ] ")" }
`

// edge leads from one state of a network to another: over a token (quoted, or a kind of tokens), over a rule, or over nothing.
type edge struct {
	over string
	to   int
}

// network is the grammar as states: each rule leads from its first state to its last one.
type network struct {
	edges       [][]edge
	first, last map[string]int
	ends        map[int]string // the rules by their last states
	words       []string       // what is left of the rule that is read
}

func newNetwork() *network {
	n := &network{first: map[string]int{}, last: map[string]int{}, ends: map[int]string{}}
	words := strings.Fields(grammar)
	for len(words) > 0 {
		rule := words[0]
		words = words[2:]
		end := slices.Index(words, "=")
		if end < 0 {
			end = len(words) + 1
		}
		n.words, words = words[:end-1], words[end-1:]
		n.first[rule] = n.state()
		n.last[rule] = n.choice(n.first[rule])
		n.ends[n.last[rule]] = rule
	}
	return n
}

func (n *network) state() int {
	n.edges = append(n.edges, nil)
	return len(n.edges) - 1
}

func (n *network) link(from int, over string, to int) int {
	n.edges[from] = append(n.edges[from], edge{over, to})
	return to
}

// choice reads rows with | between them, up to a closing bracket, and returns the state behind them.
func (n *network) choice(from int) int {
	to := n.state()
	n.link(n.row(from), "", to)
	for len(n.words) > 0 && n.words[0] == "|" {
		n.words = n.words[1:]
		n.link(n.row(from), "", to)
	}
	return to
}

func (n *network) row(from int) int {
	at := n.link(from, "", n.state())
	for len(n.words) > 0 && !strings.Contains(") ] } |", n.words[0]) {
		word := n.words[0]
		n.words = n.words[1:]
		switch word {
		case "(", "[":
			to := n.choice(at)
			if word == "[" {
				n.link(at, "", to)
			}
			at, n.words = to, n.words[1:]
		case "{":
			at = n.link(at, "", n.state())
			n.link(n.choice(at), "", at)
			n.words = n.words[1:]
		default:
			at = n.link(at, word, n.state())
		}
	}
	return at
}

// takes reports whether an edge leads over a token.
func (e edge) takes(t api.Token) bool {
	switch t.Op {
	case api.TokWord, api.TokSign:
		return e.over == `"`+t.Text+`"`
	case api.TokName:
		return e.over == "name"
	case api.TokInt:
		return e.over == "int"
	case api.TokBit:
		return e.over == "bit"
	case api.TokVec:
		return e.over == "vector"
	}
	return e.over == "text"
}

// item is a state in a rule that was begun behind so many tokens.
type item struct{ state, begun int }

// chart has the items behind each number of tokens (Earley's way): if there are none, the grammar has no text that begins so.
type chart struct {
	net *network
	row [][]item
}

func newChart(n *network) chart {
	c := chart{net: n}
	return c.with([]item{{n.first["design"], 0}})
}

// with returns the chart with one more row: the items, and all that follow from them.
func (c chart) with(items []item) chart {
	at := len(c.row)
	c.row = append(slices.Clip(c.row), items)
	seen := map[item]bool{}
	add := func(x item) {
		if !seen[x] {
			seen[x] = true
			c.row[at] = append(c.row[at], x)
		}
	}
	c.row[at] = nil
	for _, x := range items {
		add(x)
	}
	for i := 0; i < len(c.row[at]); i++ {
		x := c.row[at][i]
		for _, e := range c.net.edges[x.state] {
			if e.over == "" {
				add(item{e.to, x.begun})
			} else if first, isRule := c.net.first[e.over]; isRule {
				add(item{first, at})
			}
		}
		if rule, ends := c.net.ends[x.state]; ends {
			c.after(x.begun, rule, add)
		}
	}
	return c
}

// after calls add with what follows a rule that was begun behind so many tokens.
func (c chart) after(begun int, rule string, add func(x item)) {
	for _, x := range c.row[begun] {
		for _, e := range c.net.edges[x.state] {
			if e.over == rule {
				add(item{e.to, x.begun})
			}
		}
	}
}

// over returns the chart behind one more token, and whether the grammar has a text that begins so.
func (c chart) over(t api.Token) (chart, bool) {
	var items []item
	for _, x := range c.row[len(c.row)-1] {
		for _, e := range c.net.edges[x.state] {
			if e.takes(t) {
				items = append(items, item{e.to, x.begun})
			}
		}
	}
	return c.with(items), len(items) > 0
}

// isWhole reports whether the tokens so far are a text of the grammar.
func (c chart) isWhole() bool {
	return slices.Contains(c.row[len(c.row)-1], item{c.net.last["design"], 0})
}

// fault returns that of the tokens behind the chart, where end is that behind all of them.
func (c chart) fault(l []api.Token, end api.Fault) api.Fault {
	for _, t := range l {
		next, goesOn := c.over(t)
		if !goesOn {
			return faultOf(api.ErrSyntax, t)
		}
		c = next
	}
	if end.Code == api.ErrEnd && c.isWhole() {
		return api.Fault{}
	}
	return end
}

func faultOf(code api.Errno, t api.Token) api.Fault {
	name := t.Text
	if t.Op == api.TokInt {
		name = strconv.Itoa(t.N)
	}
	return api.Fault{Code: code, Name: name, Line: t.Line, Col: t.Col}
}

// split returns the tokens of a string, up to the first byte at which none begins, and the fault behind them.
func split(t *testing.T, s string) ([]api.Token, api.Fault) {
	t.Helper()
	l, fault := lexer.Lex(s)
	if fault == (api.Fault{}) {
		line, col := placeBehind(s)
		return l, api.Fault{Code: api.ErrEnd, Line: line, Col: col}
	}
	for i := range s {
		if line, col := placeBehind(s[:i]); line == fault.Line && col == fault.Col {
			l, left := lexer.Lex(s[:i])
			if left != (api.Fault{}) {
				t.Fatalf("%.80q: fault %v before the fault %v", s, left, fault)
			}
			return l, fault
		}
	}
	t.Fatalf("%.80q has no place for the fault %v", s, fault)
	return nil, fault
}

// placeBehind returns the position behind the last byte of a string.
func placeBehind(s string) (line, col int) {
	line, col = 1, 1
	for i := range len(s) {
		col++
		if s[i] == '\n' {
			line, col = line+1, 1
		}
	}
	return line, col
}

// expected returns the fault of a string of at most MaxText bytes in which nothing is nested too deeply.
func expected(t *testing.T, s string) api.Fault {
	t.Helper()
	l, end := split(t, s)
	return newChart(newNetwork()).fault(l, end)
}
