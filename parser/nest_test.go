package parser

import (
	"slices"
	"strings"
	"testing"

	"netwright/api"
)

// form is a way to open a body: the first token of the statement, and what stands before and behind the body.
type form struct{ first, before, behind string }

// stmtForms open bodies of statements.
func stmtForms() []form {
	return []form{
		{"if", "if a then ", "end ; "},
		{"if", "if a then elsif b then ", "end ; "},
		{"if", "if a then null ; else ", "end ; "},
		{"if", "if a then ", "elsif b then null ; else end ; "},
		{"case", "case a is when b , c => ", "end ; "},
		{"case", "case a is when b => null ; when c => ", "others => end ; "},
		{"case", "case a is others => ", "end ; "},
		{"for", "for i in 0 to 3 loop ", "end ; "},
		{"while", "while a loop ", "end ; "},
	}
}

// concForms open bodies of concurrent statements.
func concForms() []form {
	return []form{
		{"g", "g : for k in 0 to 3 generate ", "end ; "},
		{"h", "h : if a generate ", "end ; "},
		{"h", "h : if a generate q <= a ; else ", "end ; "},
		{"h", "h : if a generate ", "else q <= a ; end ; "},
	}
}

// nest returns n forms in each other, one after the other and then again from the first one.
func nest(n int, inner string, forms ...form) string {
	for i := n - 1; i >= 0; i-- {
		f := forms[i%len(forms)]
		inner = f.before + inner + f.behind
	}
	return inner
}

// wantDeep checks that n forms in each other are too deep at the statement with an index, also if the string ends, or has other faults, behind what opens its body.
func wantDeep(t *testing.T, before string, index, n int, behind string, forms ...form) {
	t.Helper()
	s := before
	for i := range index {
		s += forms[i%len(forms)].before
	}
	last := forms[index%len(forms)]
	line, col := placeBehind(s)
	want := api.Fault{Code: api.ErrDeep, Name: last.first, Line: line, Col: col}
	wantFault(t, before+nest(n, "", forms...)+behind, want)
	opened := s + openedBy(last.before)
	for _, rest := range []string{"", "\n", "!", "end", ":=", "\n\n\"", "if if"} {
		wantFault(t, opened+rest, want)
	}
	// Before its body is open it is no fault.
	cut := strings.TrimRight(opened, " ")
	cut = cut[:strings.LastIndex(cut, " ")+1]
	line, col = placeBehind(cut)
	wantFault(t, cut, api.Fault{Code: api.ErrEnd, Line: line, Col: col})
	wantFault(t, cut+"!", api.Fault{Code: api.ErrLex, Name: "!", Line: line, Col: col})
	wantFault(t, cut+"signal", api.Fault{Code: api.ErrSyntax, Name: "signal", Line: line, Col: col})
}

// openedBy returns what opens the first body of a form.
func openedBy(before string) string {
	end := len(before)
	for _, word := range []string{" then ", " => ", " loop ", " generate "} {
		if i := strings.Index(before, word); i >= 0 {
			end = min(end, i+len(word))
		}
	}
	return before[:end]
}

// wantTree checks that a string without needless brackets has a valid tree with just its tokens, but for an else of a generate statement with nothing behind it.
func wantTree(t *testing.T, s string) {
	t.Helper()
	l := parsed(t, s)
	want := strings.ReplaceAll(strings.Join(wordsOf(s), " "), "q <= a ; else end", "q <= a ; end")
	if got := textOf(l); got != want || !Valid(l) {
		t.Errorf("the tree of %q is %q", s, got)
	}
}

func TestP6_1Deep(t *testing.T) {
	function := beforeDecls + "function f ( a : t ) return t is begin "
	for _, forms := range append(each(stmtForms()), stmtForms()) {
		for _, around := range [][2]string{{beforeStmts, behindStmts}, {function, behindStmts}} {
			for _, inner := range []string{"", "null ; ", "case a is end ; ", "wait ; case b is end ; "} {
				s := around[0] + nest(api.MaxNest, inner, forms...) + around[1]
				wantTree(t, s)
			}
			wantDeep(t, around[0], api.MaxNest, api.MaxNest+1, around[1], forms...)
			wantDeep(t, around[0]+"null ; if a then null ; end ; ", api.MaxNest, api.MaxNest+9, around[1], forms...)
		}
	}
	for _, forms := range append(each(concForms()), concForms()) {
		for _, inner := range []string{"", "q <= a ; ", "l : process is begin null ; end ; "} {
			s := beforeConcs + nest(api.MaxNest, inner, forms...) + behindOne
			wantTree(t, s)
		}
		wantDeep(t, beforeConcs, api.MaxNest, api.MaxNest+1, behindOne, forms...)
		wantDeep(t, beforeConcs+"q <= a ; ", api.MaxNest, api.MaxNest+9, behindOne, forms...)
	}
}

// each returns each form alone.
func each(l []form) [][]form {
	var all [][]form
	for _, f := range l {
		all = append(all, []form{f})
	}
	return all
}

// The statements of a process are in the generate statements around it, too; its own body is no body within a statement.
func TestP6_1DeepBoth(t *testing.T) {
	for _, generates := range []int{0, 1, 7, api.MaxNest - 1, api.MaxNest} {
		for _, place := range [][2]string{
			{"l : process is begin ", "end ; "},
			{"l : process ( all ) is function f ( a : t ) return t is begin ", "end ; begin end ; "},
		} {
			for _, outer := range concForms() {
				for _, inner := range stmtForms() {
					left := api.MaxNest - generates
					s := beforeConcs + nest(generates, place[0]+nest(left, "null ; ", inner)+place[1], outer) + behindOne
					wantTree(t, s)
					before := beforeConcs + strings.Repeat(outer.before, generates) + place[0]
					wantDeep(t, before, left, left+1, place[1]+strings.Repeat(outer.behind, generates)+behindOne, inner)
				}
			}
		}
	}
}

// What is nested in one body counts no more behind it.
func TestP6_1DeepAgain(t *testing.T) {
	for _, f := range stmtForms() {
		deep := nest(api.MaxNest, "", f)
		s := beforeStmts + deep + deep + "if a then null ; end ; " + deep + "end ; m : process is begin " + deep + behindStmts
		wantTree(t, s)
		deep = nest(api.MaxNest-1, "", f)
		s = beforeStmts + f.before + deep + deep + f.behind + "if a then " + deep + "else " + deep + "end ; " + behindStmts
		wantTree(t, s)
	}
	for _, f := range concForms() {
		deep := nest(api.MaxNest, "", f)
		s := beforeConcs + deep + deep + "l : process is begin if a then null ; end ; end ; " + deep + behindOne
		wantTree(t, s)
	}
}

// Functions in functions are not statements: they may be nested as deep as a string is long.
func TestP6_1DeepFunctions(t *testing.T) {
	n := 200
	s := beforeDecls + strings.Repeat("function f ( a : t ) return t is ", n) + strings.Repeat("begin null ; end ; ", n) + behindOne
	l := parsed(t, s)
	depth := 0
	for d := l[0].Decls; len(d) == 1; d = d[0].Decls {
		depth++
	}
	if depth != n || !Valid(l) {
		t.Errorf("%d functions in each other", depth)
	}
}

// holes are texts with a place for an expression.
func holes() []string {
	all := []string{beforeDecls + "const c : t := ? ; end ;", beforeDecls + "signal s : t := ? ; end ;", beforeDecls + "var v : t := ? ; end ;", "module m generic ( g : t := ? ) port ( ) is begin end ;"}
	for _, s := range []string{"l : inst n generic ( ? ) port ( ) ;", "l : inst n generic ( a , ? ) port ( ) ;", "l : inst n port ( ? , b ) ;", "l : for k in ? to 1 generate end ;", "l : for k in 0 to ? generate end ;", "l : if ? generate end ;", "q <= ? ;", "q <= a , ? ;", "q <= transport ? after 1 ;", "q <= a after ? ;", "assert ? report \"..\" ;"} {
		all = append(all, beforeConcs+s+behindOne)
	}
	for _, s := range []string{"v := ? ;", "q <= ? ;", "q <= a , b after ? ;", "if ? then end ;", "if a then elsif ? then end ;", "case ? is end ;", "case a is when ? => end ;", "case a is when b , ? => end ;", "for i in ? to 1 loop end ;", "for i in 0 to ? loop end ;", "while ? loop end ;", "wait until ? ;", "wait for ? ;", "return ? ;", "assert ? report \"..\" ;"} {
		all = append(all, beforeStmts+s+behindStmts)
	}
	return all
}

// bracketHoles are texts with a place for an expression that has a bracket around it already.
func bracketHoles() []string {
	return []string{
		beforeDecls + "const c : vec ( ? ) := a ; end ;", beforeDecls + "signal s : array ( ? ) of bit ; end ;", beforeDecls + "var s : array ( 2 ) of vec ( ? ) ; end ;", "module m port ( a : in vec ( ? ) ) is begin end ;",
		beforeDecls + "function f ( a : vec ( ? ) ) return t is begin end ; end ;", beforeDecls + "function f ( a : t ) return vec ( ? ) is begin end ; end ;",
		beforeConcs + "q ( ? ) <= a ; end ;", beforeConcs + "q ( 3 downto ? ) <= a ; end ;", beforeStmts + "v ( ? ) := a ;" + behindStmts, beforeStmts + "v ( 1 ) ( ? downto 0 ) := a ;" + behindStmts, beforeStmts + "q ( ? ) <= a ;" + behindStmts,
	}
}

func TestP6_1DeepExpressions(t *testing.T) {
	for i, hole := range slices.Concat(holes(), bracketHoles()) {
		most := api.MaxNest
		if i >= len(holes()) {
			most--
		}
		before, behind, _ := strings.Cut(hole, "?")
		for _, part := range [][2]string{{"( ", ") "}, {"not ", ""}, {"- ", ""}, {"f ( ", ") "}, {"x ( 1 downto ", ") "}} {
			good := strings.Repeat(part[0], most) + "a " + strings.Repeat(part[1], most)
			if l := parsed(t, before+good+behind); !Valid(l) {
				t.Errorf("Parse(%s) is not valid", before+good+behind)
			}
			opening := wordsOf(part[0])
			at := slices.IndexFunc(opening, func(word string) bool { return strings.Contains("( not -", word) })
			line, col := placeBehind(before + strings.Repeat(part[0], most) + strings.Join(append(slices.Clone(opening[:at]), ""), " "))
			want := api.Fault{Code: api.ErrDeep, Name: opening[at], Line: line, Col: col}
			wantFault(t, before+part[0]+good+part[1]+behind, want)
			wantFault(t, before+part[0]+strings.Repeat(part[0], most)+"!", want)
		}
	}
}

// Statements and expressions are nested each for themselves.
func TestP6_1DeepExpressionsInStatements(t *testing.T) {
	deep := strings.Repeat("( ", api.MaxNest) + "a " + strings.Repeat(") ", api.MaxNest)
	for _, f := range stmtForms() {
		s := beforeStmts + nest(api.MaxNest, "v := "+deep+"; return "+deep+"; ", f) + behindStmts
		if l := parsed(t, s); !Valid(l) {
			t.Errorf("Parse(%s) is not valid", s)
		}
		before := beforeStmts + strings.Repeat(f.before, api.MaxNest) + "v := "
		line, col := placeBehind(before + strings.Repeat("( ", api.MaxNest))
		wantFault(t, before+"( "+deep+") ; "+behindStmts, api.Fault{Code: api.ErrDeep, Name: "(", Line: line, Col: col})
	}
}
