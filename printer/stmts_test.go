package printer

import (
	"reflect"
	"slices"
	"strings"
	"testing"

	"netwright/api"
	"netwright/parser"
)

// bodyOf returns the statements of a text.
func bodyOf(t *testing.T, text string) []api.Stmt {
	t.Helper()
	return parsed(t, inProcess.before+text+inProcess.behind)[0].Body[0].Body
}

// wantStmts checks the string of statements.
func wantStmts(t *testing.T, l []api.Stmt, want string) {
	t.Helper()
	if s, err := Stmts(l); s != want || err != api.OK {
		t.Errorf("Stmts = %q, error %d; want %q", s, err, want)
	}
}

// wantNoStmts checks that statements are refused.
func wantNoStmts(t *testing.T, l []api.Stmt, want api.Errno) {
	t.Helper()
	if s, err := Stmts(l); s != "" || err != want {
		t.Errorf("Stmts of %d statements = %.500q, error %d; want %d", len(l), s, err, want)
	}
}

func TestP7_2Examples(t *testing.T) {
	want := "if a = '1' then\n  x := 1 ;\nelse\n  null ;\nend ;\n"
	wantStmts(t, bodyOf(t, "if a = '1' then x := 1 ; else null ; end ;"), want)
	wantStmts(t, nil, "")
	wantStmts(t, []api.Stmt{}, "")
	wantStmts(t, []api.Stmt{{Op: api.SNull}}, "null ;\n")
	wantStmts(t, bodyOf(t, "return ( 01 ) ;"), "return 1 ;\n")
}

func TestP7_2Forms(t *testing.T) {
	forms := formsOf("stmt")
	for i, p := range forms {
		wantStmts(t, bodyOf(t, p.text), p.text)
		before := forms[(i+7)%len(forms)].text
		wantStmts(t, bodyOf(t, before+p.text), before+p.text)
		for _, f := range stmtFrames() {
			wantStmts(t, bodyOf(t, f.within(p.text+before)), f.within(p.text+before))
		}
	}
	for i, f := range stmtFrames() {
		for _, frames := range [][]frame{{f}, append(stmtFrames()[i:], stmtFrames()[:i]...)} {
			text := nest(api.MaxNest, frames).within("null ;\n")
			wantStmts(t, bodyOf(t, text), text)
		}
	}
}

// Statements in functions and within generate statements are printed at the same depth.
func TestP7_2Places(t *testing.T) {
	for _, p := range formsOf("stmt") {
		units := parsed(t, inFunction.within(p.text)+concFrames()[0].in(inModule).within("l : process is\nbegin\n"+indented(p.text, 1)+"end ;\n"))
		wantStmts(t, units[0].Decls[0].Body, p.text)
		wantStmts(t, units[1].Body[0].Then[0].Body, p.text)
	}
}

// Each field changed: the statements are printed just if they can be those of a process.
func TestP7_2Refuses(t *testing.T) {
	for _, text := range []string{
		"v ( 1 ) := a + 1 ;", "q <= transport a , b after 2 ;", "if a then null ; elsif b then else null ; end ;", "if a then end ;",
		"case a is when b , 1 => null ; when c => others => null ; end ;", "case a is end ;", "for i in 0 to 1 loop null ; end ;", "while a loop end ;",
		"wait on a , b until c for 1 ; wait ;", "return not a ;", "assert a report \"..\" ;", "null ; null ;",
	} {
		l := bodyOf(t, text)
		count := map[bool]int{}
		vary(reflect.ValueOf(&l).Elem(), func() {
			isValid := parser.Valid([]api.Unit{module(process(l...))})
			count[isValid]++
			if !isValid {
				wantNoStmts(t, l, api.ErrArg)
				return
			}
			s, err := Stmts(l)
			if again := bodyOf(t, s); err != api.OK || !parser.Same([]api.Unit{module(process(again...))}, []api.Unit{module(process(l...))}) {
				t.Errorf("Stmts(%+v) = %q, error %d", l, s, err)
			}
		})
		if count[true] < 3 || count[false] < 10 {
			t.Errorf("%v: of the changed ones %v are valid", text, count)
		}
	}
	good := api.Stmt{Op: api.SNull}
	for _, bad := range []api.Stmt{{}, {Op: 11}, {Op: -1}, {Op: api.SNull, N: 1}, {Op: api.SIf}, {Op: api.SReturn}, {Op: api.SReturn, Expr: api.Expr{Op: api.EVar}}, {Op: api.SVar, Target: name("a")}, {Op: api.SAssert, Expr: name("a"), Text: "\n"}} {
		for _, l := range [][]api.Stmt{{bad}, {good, bad}, {bad, good}, {{Op: api.SWhile, Expr: name("a"), Bodies: [][]api.Stmt{{good, bad}}}}} {
			wantNoStmts(t, l, api.ErrArg)
		}
	}
}

// holding returns the statements of a frame with others in it.
func holding(t *testing.T, f frame, body []api.Stmt) []api.Stmt {
	l := bodyOf(t, f.within("return here ;\n"))
	visit(reflect.ValueOf(&l).Elem(), func(v reflect.Value) {
		if place, isBody := v.Interface().([]api.Stmt); isBody && len(place) == 1 && place[0].Op == api.SReturn {
			v.Set(reflect.ValueOf(body))
		}
	})
	return l
}

func TestP7_2Limit(t *testing.T) {
	null := api.Stmt{Op: api.SNull}
	for _, size := range []int{api.MaxText, api.MaxText + 1} {
		for _, f := range append(stmtFrames(), frame{}, nest(api.MaxNest, stmtFrames())) {
			line, last := indented("null ;\n", f.depth), indented("assert a report \"b\" ;\n", f.depth)
			rest := size - len(f.before) - len(f.behind) - len(last)
			lines := strings.Repeat(line, rest/len(line))
			// The last line is as long as need be.
			first := strings.Repeat("a", 1+min(39, rest%len(line)))
			second := strings.Repeat("b", 2+rest%len(line)-len(first))
			lines += indented("assert "+first+" report \""+second+"\" ;\n", f.depth)
			body := append(slices.Repeat([]api.Stmt{null}, rest/len(line)), api.Stmt{Op: api.SAssert, Expr: name(first), Text: second})
			if l := holding(t, f, body); size <= api.MaxText {
				wantStmts(t, l, f.before+lines+f.behind)
			} else {
				wantNoStmts(t, l, api.ErrLimit)
			}
		}
	}
	many := slices.Repeat([]api.Stmt{null}, 50000)
	wantNoStmts(t, many, api.ErrLimit)
	wantNoStmts(t, append(many, api.Stmt{}), api.ErrArg)
}
