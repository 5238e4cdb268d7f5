package printer

import (
	"fmt"
	"math/rand/v2"
	"reflect"
	"strings"
	"testing"

	"netwright/api"
	"netwright/lexer"
	"netwright/parser"
)

// parsed returns the units of a string that has no fault.
func parsed(t *testing.T, s string) []api.Unit {
	t.Helper()
	l, fault := parser.Parse(s)
	if fault != (api.Fault{}) {
		t.Fatalf("Parse(%.500q): fault %v", s, fault)
	}
	return l
}

// wantPrint checks the string of units.
func wantPrint(t *testing.T, l []api.Unit, want string) {
	t.Helper()
	if s, err := Print(l); s != want || err != api.OK {
		t.Errorf("Print = %q, error %d; want %q", s, err, want)
	}
}

// wantFormat checks the string that is printed of a string.
func wantFormat(t *testing.T, s, want string) {
	t.Helper()
	if text, fault := Format(s); text != want || fault != (api.Fault{}) {
		t.Errorf("Format(%q) = %q, fault %v; want %q", s, text, fault, want)
	}
}

// wantFault checks that a string has a fault, and nothing beside it.
func wantFault(t *testing.T, s string, want api.Fault) {
	t.Helper()
	if text, fault := Format(s); text != "" || fault != want {
		t.Errorf("Format(%.500q) = %.500q, fault %v; want %v", s, text, fault, want)
	}
}

// wantNone checks that units are refused.
func wantNone(t *testing.T, l []api.Unit, want api.Errno) {
	t.Helper()
	if s, err := Print(l); s != "" || err != want {
		t.Errorf("Print(%.500s) = %.500q, error %d; want %d", fmt.Sprint(l), s, err, want)
	}
}

// wantText checks that a text is what is printed of its units, and of itself with single blanks.
func wantText(t *testing.T, text string) {
	t.Helper()
	wantPrint(t, parsed(t, text), text)
	wantFormat(t, text, text)
	wantFormat(t, strings.Join(tokensOf(t, text), " "), text)
}

// frame is what stands around lines that are so deep.
type frame struct {
	before, behind string
	depth          int
}

// within returns a text that has lines in a frame.
func (f frame) within(lines string) string {
	return f.before + indented(lines, f.depth) + f.behind
}

// in returns the frame in another one.
func (f frame) in(outer frame) frame {
	return frame{outer.before + indented(f.before, outer.depth), indented(f.behind, outer.depth) + outer.behind, f.depth + outer.depth}
}

// indented returns lines that are so much deeper.
func indented(lines string, depth int) string {
	var all strings.Builder
	for line := range strings.Lines(lines) {
		all.WriteString(strings.Repeat("  ", depth) + line)
	}
	return all.String()
}

var (
	inPackage  = frame{"package p is\n", "end ;\n", 1}
	inModule   = frame{"module m port ( ) is\nbegin\n", "end ;\n", 1}
	inProcess  = frame{"l : process is\nbegin\n", "end ;\n", 1}.in(inModule)
	inFunction = frame{"function f ( a : t ) return t is\nbegin\n", "end ;\n", 1}.in(inPackage)
)

// stmtFrames are around the body of a statement.
func stmtFrames() []frame {
	return []frame{
		{"if a then\n", "end ;\n", 1},
		{"if a then\n", "elsif b then\nelse\n  null ;\nend ;\n", 1},
		{"if a then\nelsif b then\n", "elsif c then\n  null ;\nend ;\n", 1},
		{"if a then\n  null ;\nelse\n", "end ;\n", 1},
		{"case a is\nwhen b , c =>\n", "end ;\n", 1},
		{"case a is\nwhen b =>\n  null ;\nwhen c =>\n", "others =>\n  null ;\nend ;\n", 1},
		{"case a is\nothers =>\n", "end ;\n", 1},
		{"for i in 0 to n loop\n", "end ;\n", 1},
		{"while a loop\n", "end ;\n", 1},
	}
}

// concFrames are around the body of a generate statement.
func concFrames() []frame {
	return []frame{
		{"g : for k in 0 to n generate\n", "end ;\n", 1},
		{"g : if a generate\n", "end ;\n", 1},
		{"g : if a generate\n", "else\n  q <= a ;\nend ;\n", 1},
		{"g : if a generate\nelse\n", "end ;\n", 1},
		{"g : if a generate\n  q <= a ;\nelse\n", "end ;\n", 1},
	}
}

// framesOf returns what can stand around a text of a rule.
func framesOf(rule string) []frame {
	var all []frame
	switch rule {
	case "unit":
		return []frame{{}, inModule.after(), inPackage.after()}
	case "decl":
		all = []frame{inPackage, {"module m port ( ) is\n", "begin\nend ;\n", 1}}
		all = append(all, frame{"l : process is\n", "begin\nend ;\n", 1}.in(inModule), frame{"function f ( a : t ) return t is\n", "begin\nend ;\n", 1}.in(inPackage))
	case "conc":
		all = []frame{inModule}
		for _, f := range concFrames() {
			all = append(all, f.in(inModule))
		}
	case "stmt":
		all = []frame{inProcess, inFunction}
		for _, f := range stmtFrames() {
			all = append(all, f.in(inProcess))
		}
	}
	return all
}

// after returns a frame that has another one's text before what is in it.
func (f frame) after() frame { return frame{before: f.within("")} }

// corpus has texts with all forms of the grammar, as they are printed.
func corpus() []string {
	texts := []string{"", inPackage.within("") + inModule.within("") + inPackage.within("")}
	for _, rule := range []string{"unit", "decl", "conc", "stmt"} {
		frames := framesOf(rule)
		for i, p := range formsOf(rule) {
			texts = append(texts, frames[i%len(frames)].within(p.text))
		}
	}
	return texts
}

// maker makes random texts.
type maker struct{ *rand.Rand }

func newMaker(seed uint64) maker { return maker{rand.New(rand.NewPCG(7, seed))} }

// oneOf returns one of several strings.
func (m maker) oneOf(l ...string) string { return l[m.IntN(len(l))] }

// pairsOf returns what can be a leaf of the grammar: as it is printed, and as it can be written, too.
func pairsOf(kind string) [][2]string {
	var all [][2]string
	for line := range strings.Lines(map[string]string{
		"name":   "a\nb\nx_1\nZ9\nint\nends\n" + strings.Repeat("q", 40),
		"type":   "bit\nt\nvec ( 8 ) | vec ( ( 008 ) )\narray ( 2 ) of bit | array ( 02 ) of bit\narray ( n + 1 ) of vec ( a ( 3 ) ) | array ( ( n + ( 1 ) ) ) of vec ( ( a ) ( 3 ) )",
		"target": "q\nq ( 1 ) | q ( ( 01 ) )\nq ( 3 downto 0 ) | q ( ( 3 ) downto 00 )\nq ( i + 1 ) ( 3 downto 0 ) ( 2 ) | q ( ( i + 1 ) ) ( 3 downto 0 ) ( ( ( 2 ) ) )",
		"expr":   exprPairs,
	}[kind]) {
		text, source, isPair := strings.Cut(strings.TrimSuffix(line, "\n"), " | ")
		if !isPair {
			source = text
		}
		all = append(all, [2]string{text, source})
	}
	return all
}

const exprPairs = `a
'z'
b"01xz"
7 | 007
0 | ( 000 )
2147483647 | 0002147483647
true | ( ( true ) )
a - ( b - c ) | ( a ) - ( ( b - c ) )
a - b - c | ( a - b ) - c
a + b * c | a + ( b * c )
( a + b ) * c | ( ( a + b ) ) * c
not a | not ( a )
not ( a and b ) | ( not ( ( a and b ) ) )
- - 1 | - ( - 01 )
not a and b | ( not a ) and b
a and b = c | ( a ) and ( ( b ) = ( c ) )
( a = b ) = c
a = ( b = c )
a <= b
f ( x , 1 ) ( 3 ) | ( f ( ( x ) , 1 ) ) ( ( 3 ) )
a ( 3 ) | ( a ) ( 03 )
s ( 7 downto 4 ) ( 1 ) | ( s ( ( 7 ) downto 4 ) ) ( 1 )
( a & b ) ( 1 )
a mod 2 shl 3 | ( a mod 2 ) shl ( 3 )
a xor ( b or c )`

func (m maker) leaf(kind string) (text, source string) {
	if kind == "text" {
		text = m.oneOf(`""`, `"..."`, `"end ; -- b"`, `" is  begin "`, `"`+strings.Repeat("~", 60)+`"`)
		return text, text
	}
	pairs := pairsOf(kind)
	pair := pairs[m.IntN(len(pairs))]
	text, source = pair[0], pair[m.IntN(2)]
	if kind == "expr" && m.IntN(4) == 0 {
		source = "( " + source + " )"
	}
	return text, source
}

// page returns a random text of some units.
func (m maker) page() page {
	p := page{rules: rulesOf(), leaf: m.leaf}
	p.pick = func(n int) int {
		// Only what is repeated has three ways.
		if n == 3 && p.depth > 4 {
			return 0
		}
		return m.IntN(n)
	}
	for range m.IntN(4) {
		p.rule("unit")
	}
	return p
}

// spread returns words with random gaps.
func (m maker) spread(words []string) string {
	s := m.gap()
	for _, word := range words {
		parts := []string{word}
		if word[0] != '"' {
			parts = strings.Fields(word)
		}
		for _, part := range parts {
			if m.IntN(2) == 0 && strings.Contains("(),;", part) {
				s = strings.TrimRight(s, " ")
			}
			s += part + m.gap()
		}
	}
	return s
}

func (m maker) gap() string {
	return m.oneOf(" ", " ", " ", " ", "\n", "\t", "\r\n", "\n\n", " -- end ; \" '\n", "   ", " --\n ")
}

// tokensOf returns the tokens of a string that has only tokens, as they are written without leading 0s.
func tokensOf(t *testing.T, s string) []string {
	t.Helper()
	l, fault := lexer.Lex(s)
	if fault != (api.Fault{}) {
		t.Fatalf("Lex(%.500q): fault %v", s, fault)
	}
	var words []string
	for _, token := range l {
		word, _ := lexer.Text([]api.Token{token})
		words = append(words, word)
	}
	return words
}

// vary changes one field after the other of a tree in several ways, calls try each time, and takes it back.
func vary(v reflect.Value, try func()) {
	old := reflect.New(v.Type()).Elem()
	old.Set(v)
	for _, other := range othersOf(v) {
		v.Set(other)
		try()
		v.Set(old)
	}
	for _, part := range partsOf(v) {
		vary(part, try)
	}
}

// partsOf returns the fields of a struct, or the parts of a list.
func partsOf(v reflect.Value) []reflect.Value {
	var all []reflect.Value
	switch v.Kind() {
	case reflect.Struct:
		for i := range v.NumField() {
			all = append(all, v.Field(i))
		}
	case reflect.Slice:
		for i := range v.Len() {
			all = append(all, v.Index(i))
		}
	}
	return all
}

// othersOf returns other values for what is no struct.
func othersOf(v reflect.Value) []reflect.Value {
	var all []reflect.Value
	add := func(others ...any) {
		for _, other := range others {
			all = append(all, reflect.ValueOf(other).Convert(v.Type()))
		}
	}
	switch v.Kind() {
	case reflect.Bool:
		add(!v.Bool())
	case reflect.String:
		add("", "other", "end", "vec", "+", "1", "a b", "a\"", "\n", strings.Repeat("a", 41), strings.Repeat("b", 61))
	case reflect.Int:
		add(0, 1, 2, 7, -1, v.Int()+1, 1<<40)
	case reflect.Uint8:
		add(0, 2, 4)
	case reflect.Slice:
		n := v.Len()
		whole := v.Slice3(0, n, n)
		all = append(all, reflect.Zero(v.Type()), reflect.Append(whole, reflect.Zero(v.Type().Elem())))
		if n > 0 {
			all = append(all, v.Slice(1, n), v.Slice(0, n-1), reflect.Append(whole, v.Index(n-1)))
		}
	}
	return all
}

// visit calls f with a tree and all that it has.
func visit(v reflect.Value, f func(v reflect.Value)) {
	f(v)
	for _, part := range partsOf(v) {
		visit(part, f)
	}
}
