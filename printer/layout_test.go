package printer

import (
	"slices"
	"strings"
	"testing"
)

// grammar is that of the document down to what has no lines in it: the kinds of leaves are name, type, expr, target and text.
const grammar = `
    design   = { unit }
    unit     = "package" name "is" { decl } "end" ";"
             | "module" name [ "generic" "(" param { ";" param } ")" ] "port" "(" [ port { ";" port } ] ")" "is" { decl } "begin" { conc } "end" ";"
    param    = name ":" type [ ":=" expr ]
    arg      = name ":" type
    port     = name ":" ( "in" | "out" ) type
    decl     = "const" name ":" type ":=" expr ";"
             | "type" name "is" "(" name { "," name } ")" ";"
             | "signal" name ":" type [ ":=" expr ] ";"
             | "var" name ":" type [ ":=" expr ] ";"
             | "function" name "(" arg { ";" arg } ")" "return" type "is" { decl } "begin" { stmt } "end" ";"
             | "use" name ";"
    conc     = name ":" "process" [ "(" ( "all" | name { "," name } ) ")" ] "is" { decl } "begin" { stmt } "end" ";"
             | name ":" "inst" name [ "generic" "(" expr { "," expr } ")" ] "port" "(" [ expr { "," expr } ] ")" ";"
             | name ":" "for" name "in" expr "to" expr "generate" { conc } "end" ";"
             | name ":" "if" expr "generate" { conc } [ "else" { conc } ] "end" ";"
             | target "<=" [ "transport" ] wave { "," wave } ";"
             | "assert" expr "report" text ";"
    wave     = expr [ "after" expr ]
    stmt     = target ":=" expr ";"
             | target "<=" [ "transport" ] wave { "," wave } ";"
             | "if" expr "then" { stmt } { "elsif" expr "then" { stmt } } [ "else" { stmt } ] "end" ";"
             | "case" expr "is" { "when" expr { "," expr } "=>" { stmt } } [ "others" "=>" { stmt } ] "end" ";"
             | "for" name "in" expr "to" expr "loop" { stmt } "end" ";"
             | "while" expr "loop" { stmt } "end" ";"
             | "wait" [ "on" name { "," name } ] [ "until" expr ] [ "for" expr ] ";"
             | "return" expr ";"
             | "assert" expr "report" text ";"
             | "null" ";"
`

// node is a part of the grammar: a word of it, or rows of parts in brackets, one of which is taken.
type node struct {
	word string // or the opening bracket
	rows [][]node
}

// isWord reports whether a node is a word that stands in texts.
func (n node) isWord(word string) bool { return n.word == `"`+word+`"` }

// rulesOf returns the rules of the grammar by their names.
func rulesOf() map[string]node {
	rules := map[string]node{}
	words := strings.Fields(grammar)
	for len(words) > 0 {
		end := slices.Index(words[2:], "=") + 1
		if end == 0 {
			end = len(words)
		}
		rows, _ := rowsOf(words[2:end])
		rules[words[0]] = node{"(", rows}
		words = words[end:]
	}
	return rules
}

// rowsOf reads rows with | between them, and returns the words from the closing bracket on.
func rowsOf(words []string) ([][]node, []string) {
	rows := [][]node{nil}
	for len(words) > 0 && !strings.Contains(")]}", words[0]) {
		n, last := node{word: words[0]}, len(rows)-1
		words = words[1:]
		switch n.word {
		case "|":
			rows = append(rows, nil)
			continue
		case "(", "[", "{":
			n.rows, words = rowsOf(words)
			words = words[1:]
		}
		rows[last] = append(rows[last], n)
	}
	return rows, words
}

// page is a text of the grammar: its string in the lines that it has to have, and the tokens of a string that is to be formatted.
type page struct {
	rules  map[string]node
	pick   func(n int) int // one of n ways
	leaf   func(kind string) (text, source string)
	inner  func(rule string) []string // texts of a line for a rule, if it is not to be gone into
	text   string
	source []string
	depth  int
	given  int
}

// put writes a word, with what comes before it on its line.
func (p *page) put(word, source string) {
	if p.text == "" || strings.HasSuffix(p.text, "\n") {
		p.text += strings.Repeat(" ", 2*p.depth)
	} else {
		p.text += " "
	}
	p.text += word
	p.source = append(p.source, source)
}

// rule writes a text of a rule.
func (p *page) rule(name string) {
	rows := p.rules[name].rows
	row := rows[0]
	if len(rows) > 1 {
		row = rows[p.pick(len(rows))]
	}
	p.row(name, row)
	if slices.Contains([]string{"unit", "decl", "conc", "stmt"}, name) {
		p.text += "\n"
	}
}

func (p *page) row(rule string, row []node) {
	for _, n := range row {
		switch n.word {
		case "(":
			p.row(rule, n.rows[p.pick(len(n.rows))])
		case "[":
			if p.pick(2) == 1 {
				p.option(rule, n.rows[0])
			}
		case "{":
			p.repeated(rule, n.rows[0])
		default:
			p.word(n.word)
			if endsLine(n, row[0]) {
				p.text += "\n"
			}
		}
	}
}

// endsLine reports whether a line ends behind a word, other than the semicolon that ends the text of a rule.
func endsLine(n, first node) bool {
	if n.isWord("is") {
		return !first.isWord("type")
	}
	return slices.ContainsFunc([]string{"begin", "generate", "loop", "then", "else", "=>"}, n.isWord)
}

// option writes what may be there. Of the else of a generate statement that has nothing behind it there is no line.
func (p *page) option(rule string, row []node) {
	before := p.text
	p.row(rule, row)
	if rule == "conc" && row[0].isWord("else") && strings.HasSuffix(p.text, "else\n") {
		p.text = before
	}
}

// repeated writes a row none, one or two times. Rows of declarations and statements are bodies.
func (p *page) repeated(rule string, row []node) {
	deeper := 0
	if len(row) == 1 && row[0].word != "unit" {
		deeper = 1
	}
	p.depth += deeper
	for range p.pick(3) {
		p.row(rule, row)
	}
	p.depth -= deeper
}

func (p *page) word(word string) {
	_, isRule := p.rules[word]
	switch {
	case strings.HasPrefix(word, `"`):
		word = strings.Trim(word, `"`)
		p.put(word, word)
	case !isRule:
		p.put(p.leaf(word))
	case p.inner == nil:
		p.rule(word)
	default:
		texts := p.inner(word)
		text := texts[p.given%len(texts)]
		p.given++
		p.put(text, text)
		if strings.HasSuffix(text, ";") {
			p.text += "\n"
		}
	}
}

// every calls f with a function that picks one of so many ways, once for each row of ways.
func every(f func(pick func(n int) int)) {
	var row, counts []int
	for {
		at := 0
		f(func(n int) int {
			if at == len(row) {
				row, counts = append(row, 0), append(counts, n)
			}
			at++
			return row[at-1]
		})
		for at > 0 && row[at-1] == counts[at-1]-1 {
			at--
		}
		if at == 0 {
			return
		}
		row, counts = row[:at], counts[:at]
		row[at-1]++
	}
}

// innerTexts returns texts of one line for a rule.
func innerTexts(rule string) []string {
	return map[string][]string{
		"decl":  {"use u ;", "type t is ( a , b ) ;"},
		"conc":  {"q <= a ;", `assert a report "end ;" ;`, "i : inst n port ( a , b ) ;"},
		"stmt":  {"null ;", "wait ;", "v := a <= b ;"},
		"param": {"g : int", "h : vec ( 2 ) := a"},
		"arg":   {"a : t", "b : vec ( 3 )"},
		"port":  {"a : in bit", "q : out vec ( n )"},
		"wave":  {"a", "b after 2"},
	}[rule]
}

// formsOf returns the pages of all texts of a rule, with each of its parts there and not there, and none, one and two of each that may be repeated.
func formsOf(rule string) []page {
	var all []page
	plain := map[string]string{"name": "a", "type": "bit", "expr": "b", "target": "q", "text": `".."`}
	every(func(pick func(n int) int) {
		p := page{rules: rulesOf(), pick: pick, inner: innerTexts}
		p.leaf = func(kind string) (text, source string) { return plain[kind], plain[kind] }
		p.rule(rule)
		all = append(all, p)
	})
	return all
}

func TestLayout(t *testing.T) {
	count := map[string]int{"unit": 3 + 4*4*3*3, "param": 2, "arg": 1, "port": 2, "wave": 2, "decl": 1 + 3 + 2 + 2 + 3*3*3 + 1, "conc": 5*3*3 + 4*4 + 3 + 3*4 + 2*3 + 1, "stmt": 1 + 2*3 + 3*(1+3+9)*4 + (1+9+81)*4 + 3 + 3 + 4*2*2 + 3}
	for rule, want := range count {
		seen := map[string]bool{}
		for _, p := range formsOf(rule) {
			seen[strings.Join(p.source, " ")] = true
		}
		if len(seen) != want {
			t.Errorf("%d forms of %s; want %d", len(seen), rule, want)
		}
	}
}
