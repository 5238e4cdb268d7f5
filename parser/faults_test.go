package parser

import (
	"slices"
	"strings"
	"testing"

	"netwright/api"
	"netwright/lexer"
)

// kinds are all reserved words and signs, and of the other tokens one or more of each kind.
const kinds = "package is end module generic port begin in out vec array of const type signal var function return use process all inst for to generate if else transport after assert report then elsif case when others loop while wait on until null and or xor nand nor xnor not mod shl shr downto" +
	" := <= => >= /= = < > + - * / & ( ) : ; , n 7 '1' b\"01xz\" \"..\" \"end\" \";\""

// corpus has texts with all forms of the grammar, with and without each of their parts, and without brackets that are not needed.
func corpus() []string {
	texts := []string{
		"", "package p is end ; package p is use q ; use r ; end ;",
		"package p is const c : int := - 1 ; type t is ( a ) ; type u is ( a , b , c ) ; signal s : bit ; signal s : t := a ; var v : vec ( n ) ; var v : int := 3 ; end ;",
		"module m port ( ) is begin end ; module n generic ( g : int ) port ( a : in bit ) is use p ; begin end ;",
		"module m generic ( g : int := 1 + 2 ; h : t ; i : bit := '1' ) port ( a : in vec ( g ) ; q : out array ( 2 ) of vec ( 3 ) ) is signal s : bit ; begin q <= a ; end ;",
		"package p is function f ( a : int ) return int is begin end ; function f ( a : int ; b : array ( 3 ) of bit ) return vec ( 8 ) is var v : bit ; const c : t := 1 ; begin return a ; null ; end ; end ;",
	}
	for _, s := range []string{
		"l : process is begin end ; l : process ( all ) is var v : bit ; begin null ; end ; l : process ( a , b ) is begin end ;",
		"l : inst n port ( ) ; l : inst n generic ( 1 ) port ( a ) ; l : inst n generic ( 1 , b ) port ( a & c , f ( 1 , 2 ) , d ( 3 ) ) ;",
		"l : for k in 0 to n - 1 generate end ; l : for k in a to b generate q <= a ; assert a report \"..\" ; end ;",
		"l : if a generate end ; l : if a = b generate q <= a ; else end ; l : if not a generate l : inst n port ( ) ; else q <= b ; q <= c ; end ;",
		"q <= a ; q ( 1 ) <= transport a , b after 2 ; q ( 1 ) ( 3 downto 0 ) <= b\"01xz\" after t + 1 , '0' ; assert a = '1' report \"x\" ;",
	} {
		texts = append(texts, beforeConcs+s+behindOne)
	}
	for _, s := range []string{
		"v := a ; v ( i ) := a <= b ; v ( 3 downto 0 ) ( 1 ) := f ( a ) ( 1 ) ; q <= a <= b , c after 3 ; q ( 1 ) <= transport d ;",
		"if a then end ; if a then null ; elsif b then elsif c then null ; null ; else null ; end ; if a then else null ; end ;",
		"case a is end ; case a is others => null ; end ; case a is when 1 => null ; when 2 , 3 , b => when '1' => null ; null ; others => end ;",
		"for i in 0 to 3 loop end ; for i in a to b loop null ; null ; end ; while a loop end ; while a < b loop v := 1 ; wait ; end ;",
		"wait ; wait on a ; wait on a , b until c for 4 ; wait until a = b ; wait for n + 1 ; wait on a for 2 ; wait until a for b ; return 1 ; assert a report \"\" ; null ;",
	} {
		texts = append(texts, beforeStmts+s+behindStmts)
	}
	return texts
}

// wordsOf returns the tokens of a string as it has them: no text has two blanks.
func wordsOf(s string) []string { return strings.Fields(s) }

// wantModel checks the fault of a string by the grammar.
func wantModel(t *testing.T, c chart, from int, s string) {
	t.Helper()
	l, end := split(t, s)
	wantFault(t, s, c.fault(l[from:], end))
}

func TestP6_1Corpus(t *testing.T) {
	for _, s := range corpus() {
		if want := expected(t, s); want != (api.Fault{}) {
			t.Errorf("by the grammar %q has the fault %v", s, want)
		}
		// An else of a generate statement that has nothing behind it leaves nothing.
		if got, want := textOf(parsed(t, s)), strings.ReplaceAll(s, "else end", "end"); got != want {
			t.Errorf("the tree of %q is %q", s, got)
		}
	}
}

// charts returns the charts behind each number of tokens.
func charts(t *testing.T, s string) ([]api.Token, []chart) {
	t.Helper()
	l, _ := split(t, s)
	all := []chart{newChart(newNetwork())}
	for _, token := range l {
		next, goesOn := all[len(all)-1].over(token)
		if !goesOn {
			t.Fatalf("%q cannot go on with %v", s, token)
		}
		all = append(all, next)
	}
	return l, all
}

// Behind each beginning of a text, each token is taken just if the grammar says so; the end behind it is behind its last byte.
func TestP6_1NextToken(t *testing.T) {
	for _, s := range corpus() {
		words := wordsOf(s)
		_, at := charts(t, s)
		for i := range at {
			before := strings.Join(words[:i], " ")
			wantModel(t, at[i], i, before)
			for _, gap := range []string{"\n", " \t", "\n\n  ", " -- end ;", "\n--\n "} {
				wantModel(t, at[i], i, before+gap)
			}
			for _, other := range wordsOf(kinds) {
				wantModel(t, at[i], i, before+"\n "+other)
			}
		}
	}
}

// Each token of each text left out, doubled, and exchanged for each other one.
func TestP6_1OtherTokens(t *testing.T) {
	for _, s := range corpus() {
		words := wordsOf(s)
		_, at := charts(t, s)
		for i, word := range words {
			before, behind := strings.Join(words[:i], " ")+"\n", " "+strings.Join(words[i+1:], " ")
			wantModel(t, at[i], i, before+behind)
			wantModel(t, at[i], i, before+word+" "+word+behind)
			for _, other := range wordsOf(kinds) {
				wantModel(t, at[i], i, before+other+behind)
			}
		}
	}
}

// All rows of three tokens, as far as the grammar goes, in each kind of body.
func TestP6_1EveryRow(t *testing.T) {
	words := wordsOf(kinds)
	for _, before := range []string{"", beforeDecls, beforeConcs, beforeStmts, beforeStmts + "if a then null ; ", beforeStmts + "case a is when b => ", beforeConcs + "l : if a generate "} {
		l, at := charts(t, before)
		var grow func(c chart, row string, n int)
		grow = func(c chart, row string, n int) {
			for _, word := range words {
				tokens, _ := lexer.Lex(word)
				wantModel(t, c, len(l)+3-n, row+word)
				if next, goesOn := c.over(tokens[0]); goesOn && n > 1 {
					grow(next, row+word+" ", n-1)
				}
			}
		}
		grow(at[len(l)], before, 3)
	}
}

// An error of the lexer counts where its token is needed: a token before it that cannot go on comes first, and what is behind it does not count.
func TestP6_1LexerFaults(t *testing.T) {
	for _, s := range corpus() {
		words := wordsOf(s)
		_, at := charts(t, s)
		for i := range at {
			before := strings.Join(words[:i], " ") + " " + strings.Repeat("\n", i%3)
			line, col := placeBehind(before)
			arrow := api.Token{Op: api.TokSign, Text: "=>", Line: line, Col: col}
			_, canStand := at[i].over(arrow)
			for _, bad := range []string{"!", "12a", "\"", "b\"\"", "2147483648", "'2'", "\x00", "\xff", strings.Repeat("a", 41), "b\"1\nend\""} {
				want := api.Fault{Code: api.ErrLex, Name: bad[:1], Line: line, Col: col}
				wantFault(t, before+bad, want)
				wantFault(t, before+bad+"\n"+strings.Join(words[i:], " "), want)
				wantFault(t, before+bad+"\n ! := :=", want)
				want.Col += len("=> ")
				if !canStand {
					want = faultOf(api.ErrSyntax, arrow)
				}
				wantFault(t, before+"=> "+bad, want)
			}
		}
	}
}

func TestP6_1Names(t *testing.T) {
	for s, want := range map[string]api.Fault{
		"007":                                          {Code: api.ErrSyntax, Name: "7", Line: 1, Col: 1},
		"package 000 is":                               {Code: api.ErrSyntax, Name: "0", Line: 1, Col: 9},
		"module m port ( 00123":                        {Code: api.ErrSyntax, Name: "123", Line: 1, Col: 17},
		beforeStmts + "\n\tnull 02147483647 ;":         {Code: api.ErrSyntax, Name: "2147483647", Line: 2, Col: 7},
		"'z'":                                          {Code: api.ErrSyntax, Name: "z", Line: 1, Col: 1},
		"package b\"01xz\"":                            {Code: api.ErrSyntax, Name: "01xz", Line: 1, Col: 9},
		"package \"\"":                                 {Code: api.ErrSyntax, Line: 1, Col: 9},
		"\n package\n\"is end ;\"":                     {Code: api.ErrSyntax, Name: "is end ;", Line: 3, Col: 1},
		"package p is end":                             {Code: api.ErrEnd, Line: 1, Col: 17},
		"package p is end\n":                           {Code: api.ErrEnd, Line: 2, Col: 1},
		"package p is end -- ;":                        {Code: api.ErrEnd, Line: 1, Col: 22},
		"package p is end\r\n\n \t":                    {Code: api.ErrEnd, Line: 3, Col: 3},
		"package p is end ; \"":                        {Code: api.ErrLex, Name: "\"", Line: 1, Col: 20},
		"package p is end ; end":                       {Code: api.ErrSyntax, Name: "end", Line: 1, Col: 20},
		"package p is a := ! ; end ;":                  {Code: api.ErrSyntax, Name: "a", Line: 1, Col: 14},
		beforeConcs + "q ( 1 , 2 ) <=":                 {Code: api.ErrSyntax, Name: ",", Line: 1, Col: 34},
		beforeConcs + "l : a":                          {Code: api.ErrSyntax, Name: "a", Line: 1, Col: 32},
		beforeConcs + "f ( 1 ) : process":              {Code: api.ErrSyntax, Name: ":", Line: 1, Col: 36},
		beforeDecls + "const c : array ( 2 ) of array": {Code: api.ErrSyntax, Name: "array", Line: 1, Col: 39},
		beforeConcs + "q <= ( f ) ( 1 , 2 )":           {Code: api.ErrSyntax, Name: ",", Line: 1, Col: 43},
		beforeConcs + "q <= f ( " + strings.Repeat("1 , ", 19) + "1 , 1 )": {Code: api.ErrSyntax, Name: ",", Line: 1, Col: 115},
	} {
		wantFault(t, s, want)
	}
}

// Positions of random units, in random gaps; with nothing but single blanks; and with a token to a line.
func TestP6_1Positions(t *testing.T) {
	for seed := range uint64(400) {
		m := newMaker(seed)
		units := m.units()
		gaps := []func(before, behind string) string{m.gap, blanks, func(before, behind string) string { return "\n" }}
		for _, gap := range gaps {
			s, want := placed(t, units, gap)
			if len(s) > api.MaxText {
				continue
			}
			if l := parsed(t, s); !equal(l, want) {
				t.Errorf("Parse(%.2000q) = %+v; want %+v", s, l, want)
			}
		}
	}
}

func TestP6_1Limit(t *testing.T) {
	name := strings.Repeat("q", 39)
	long := beforeConcs + strings.Repeat("assert "+name+" report \"\" ; ", 300)
	for _, s := range []string{"", "package p is end ; ", long + "end ; ", beforeStmts + strings.Repeat("null;", 3900) + "end;end; "} {
		full := s + strings.Repeat("-", api.MaxText-len(s))
		if l := parsed(t, full); !alike(l, parsed(t, s)) {
			t.Errorf("the string of MaxText bytes %.80q has %d units", full, len(l))
		}
		wantFault(t, full+" ", api.Fault{Code: api.ErrLimit})
		wantFault(t, full+"\n", api.Fault{Code: api.ErrLimit})
	}
	for _, s := range []string{"!", "end ", "a", "\n", "(", "package ", "\xff"} {
		wantFault(t, strings.Repeat(s, api.MaxText+1), api.Fault{Code: api.ErrLimit})
		wantFault(t, strings.Repeat(s, api.MaxText/len(s)+1), api.Fault{Code: api.ErrLimit})
	}
	wantFault(t, strings.Repeat("\n", api.MaxText-7)+"package", api.Fault{Code: api.ErrEnd, Line: api.MaxText - 6, Col: 8})
	wantFault(t, strings.Repeat(" ", api.MaxText-1)+"!", api.Fault{Code: api.ErrLex, Name: "!", Line: 1, Col: api.MaxText})
}

// Lists and expressions of each number of tokens: package expr is given just a part of them at first.
func TestP6_1LongParts(t *testing.T) {
	for n := 1; n < 150; n++ {
		sum := "a" + strings.Repeat(" + a", n)
		target := "q" + strings.Repeat(" ( 1 )", n)
		array := "array ( " + sum + " ) of vec ( " + sum + " )"
		wantUnits(t, beforeConcs+target+" <= "+sum+" after "+sum+" , "+sum+" ;"+behindOne, module(api.Conc{Op: api.CAssign, Body: []api.Stmt{
			{Op: api.SSig, Target: ex(target), Waves: []api.Wave{{Expr: ex(sum), After: exs(sum)}, {Expr: ex(sum)}}},
		}}))
		wantUnits(t, beforeDecls+"signal s : "+array+" := "+sum+" ; "+behindOne, pack(api.Decl{Op: api.DSignal, Name: "s", Ref: ty(array), Init: exs(sum)}))
		for _, s := range []string{beforeConcs + "q <= " + sum, beforeConcs + target, beforeDecls + "signal s : " + array, beforeDecls + "signal s : array ( " + sum} {
			line, col := placeBehind(s + " ")
			for _, bad := range []string{"12a", "\"", "! ; end"} {
				wantFault(t, s+" "+bad, api.Fault{Code: api.ErrLex, Name: bad[:1], Line: line, Col: col})
			}
			wantFault(t, s+" \"end\" !", api.Fault{Code: api.ErrSyntax, Name: "end", Line: line, Col: col})
			wantFault(t, s+" ", api.Fault{Code: api.ErrEnd, Line: line, Col: col})
		}
	}
	ports := slices.Repeat(exs("a"), 9900)
	s := beforeConcs + "l:inst n port(" + strings.Repeat("a,", len(ports)-1) + "a);" + behindOne
	wantUnits(t, s, module(api.Conc{Op: api.CInst, Label: "l", Name: "n", Ports: ports}))
	sum := "a" + strings.Repeat("+a", 9900)
	wantUnits(t, beforeConcs+"q<="+sum+";"+behindOne, module(api.Conc{Op: api.CAssign, Body: []api.Stmt{assign("q", sum)}}))
}
