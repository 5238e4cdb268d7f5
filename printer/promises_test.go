package printer

import (
	"reflect"
	"slices"
	"strings"
	"testing"

	"netwright/api"
	"netwright/lexer"
	"netwright/parser"
)

// sources returns strings without faults whose texts are not too long, with all that is not needed.
func sources(t *testing.T) []string {
	t.Helper()
	var all []string
	m := newMaker(5)
	for _, text := range corpus() {
		all = append(all, text, m.spread(tokensOf(t, text)))
	}
	for seed := range uint64(500) {
		m := newMaker(1000 + seed)
		p := m.page()
		if s := m.spread(p.source); len(s) <= api.MaxText && len(p.text) <= api.MaxText {
			all = append(all, s)
		}
	}
	return all
}

func TestP7_4RoundTrip(t *testing.T) {
	for _, s := range sources(t) {
		l := parsed(t, s)
		text, err := Print(l)
		if err != api.OK || !parser.Same(parsed(t, text), l) {
			t.Errorf("Print of Parse(%q) = %q, error %d", s, text, err)
		}
		if again, fault := Format(s); again != text || fault != (api.Fault{}) {
			t.Errorf("Format(%q) = %q, fault %v; Print gives %q", s, again, fault, text)
		}
	}
}

func TestP7_5Once(t *testing.T) {
	for _, s := range sources(t) {
		text, fault := Format(s)
		if fault != (api.Fault{}) {
			t.Errorf("Format(%q): fault %v", s, fault)
		}
		wantFormat(t, text, text)
	}
}

// wantFewer checks that tokens are others, of which some brackets and some else before an end are left out.
func wantFewer(t *testing.T, got, all []string) {
	t.Helper()
	at := 0
	for i, word := range all {
		if at < len(got) && got[at] == word {
			at++
			continue
		}
		isElse := word == "else" && i+1 < len(all) && all[i+1] == "end"
		if word != "(" && word != ")" && !isElse {
			t.Errorf("%q is left out at %d of %q", word, i, all)
			return
		}
	}
	if at < len(got) {
		t.Errorf("%q are not tokens of %q", got, all)
	}
}

// The tokens are the same where there is nothing that is not needed; else some are left out.
func TestP7_6Tokens(t *testing.T) {
	for _, s := range sources(t) {
		text, _ := Format(s)
		got, all := tokensOf(t, text), tokensOf(t, s)
		wantFewer(t, got, all)
		opening, closing := 0, 0
		for _, word := range got {
			switch word {
			case "(":
				opening++
			case ")":
				closing++
			}
		}
		if opening != closing {
			t.Errorf("%q has %d opening and %d closing brackets", text, opening, closing)
		}
	}
	for _, text := range corpus() {
		s := strings.Join(tokensOf(t, text), "\t")
		again, _ := Format(s)
		if got, want := tokensOf(t, again), tokensOf(t, s); !slices.Equal(got, want) {
			t.Errorf("of %q the tokens are %q", s, got)
		}
	}
}

// Without any pair of its brackets, a text is another one, or none.
func TestP7_6Brackets(t *testing.T) {
	for seed := range uint64(60) {
		p := newMaker(seed).page()
		if len(p.text) > 3000 {
			continue
		}
		l := parsed(t, p.text)
		words := tokensOf(t, p.text)
		var opened []int
		for i, word := range words {
			switch word {
			case "(":
				opened = append(opened, i)
			case ")":
				first := opened[len(opened)-1]
				opened = opened[:len(opened)-1]
				s := strings.Join(slices.Delete(slices.Delete(slices.Clone(words), i, i+1), first, first+1), " ")
				if other, fault := parser.Parse(s); fault == (api.Fault{}) && parser.Same(other, l) {
					t.Errorf("%q needs no bracket at %d", p.text, first)
				}
			}
		}
	}
}

// Each line begins with pairs of blanks, has single blanks between its tokens, and ends with none; there is no empty line.
func TestP7_6Lines(t *testing.T) {
	for _, s := range sources(t) {
		text, _ := Format(s)
		for line := range strings.Lines(text) {
			content := strings.TrimLeft(line, " ")
			l, _ := lexer.Lex(content)
			plain, err := lexer.Text(l)
			if content != plain+"\n" || err != api.OK || len(l) == 0 || (len(line)-len(content))%2 > 0 {
				t.Errorf("Format(%q) has the line %q", s, line)
			}
		}
	}
}

// Trees that are parts of themselves are not valid.
func TestRule1Circles(t *testing.T) {
	stmts, bodies := make([]api.Stmt, 1), make([][]api.Stmt, 1)
	stmts[0], bodies[0] = api.Stmt{Op: api.SWhile, Expr: name("a"), Bodies: bodies}, stmts
	concs := make([]api.Conc, 1)
	concs[0] = api.Conc{Op: api.CFor, Label: "g", Name: "k", Expr: name("a"), Last: name("b"), Then: concs}
	decls := make([]api.Decl, 1)
	decls[0] = api.Decl{Op: api.DFun, Name: "f", Params: []api.Param{{Name: "a", Ref: api.TypeRef{Name: "t"}}}, Ref: api.TypeRef{Name: "t"}, Decls: decls}
	kids := make([]api.Expr, 1)
	kids[0] = api.Expr{Op: api.ECall, Name: "not", Kids: kids}
	assignment := api.Stmt{Op: api.SVar, Target: name("a"), Expr: kids[0]}
	for _, u := range []api.Unit{module(process(stmts...)), module(concs...), {Op: api.UPackage, Name: "p", Decls: decls}, module(process(assignment))} {
		wantNone(t, []api.Unit{u}, api.ErrArg)
	}
	wantNoStmts(t, stmts, api.ErrArg)
	wantNoStmts(t, []api.Stmt{assignment}, api.ErrArg)
}

// Any string has a text or a fault.
func TestRule1AnyString(t *testing.T) {
	m := newMaker(6)
	for range 5000 {
		var s strings.Builder
		s.WriteString(m.oneOf("", inPackage.before, inModule.before, inProcess.before))
		for range m.IntN(30) {
			s.WriteString(m.oneOf("end", ";", "if", "a", "(", ")", "then", "else", "7", "is", "\"", "b\"01\"", "\n", "--", "null", ":=", "<=", "generate", ":", "\xff", "'1'", "process", "begin"))
			s.WriteString(m.oneOf(" ", " ", ""))
		}
		text, fault := Format(s.String())
		if _, want := parser.Parse(s.String()); fault != want || fault.Code != api.OK && text != "" {
			t.Errorf("Format(%q) = %q, fault %v", s.String(), text, fault)
		}
	}
}

// No argument is changed, and what is given is not kept.
func TestRule3Memory(t *testing.T) {
	for _, text := range corpus() {
		l, want := parsed(t, text), parsed(t, text)
		s, err := Print(l)
		if s != text || err != api.OK || !reflect.DeepEqual(l, want) {
			t.Errorf("Print changed %+v to %+v", want, l)
		}
		visit(reflect.ValueOf(&l).Elem(), func(v reflect.Value) {
			switch v.Kind() {
			case reflect.String:
				v.SetString("scribbled")
			case reflect.Slice:
				reflect.Append(v, reflect.Zero(v.Type().Elem()))
			}
		})
		if s != text {
			t.Errorf("what Print gave is now %q", s)
		}
		wantPrint(t, want, text)
	}
	for _, p := range formsOf("stmt") {
		l, want := bodyOf(t, p.text), bodyOf(t, p.text)
		wantStmts(t, l, p.text)
		wantStmts(t, l, p.text)
		if !reflect.DeepEqual(l, want) {
			t.Errorf("Stmts changed %+v to %+v", want, l)
		}
	}
}

// What is behind the last part of a list stays as it was.
func TestRule3Behind(t *testing.T) {
	body := []api.Stmt{{Op: api.SNull}, {Op: api.SWait}, {Op: api.SNull, Text: "behind"}}
	wantStmts(t, body[:2], "null ;\nwait ;\n")
	units := []api.Unit{module(process(body[:1]...)), {Op: api.UPackage, Name: "behind"}}
	wantPrint(t, units[:1], inModule.within("l : process is\nbegin\n  null ;\nend ;\n"))
	if body[2].Text != "behind" || body[1].Op != api.SWait || units[1].Name != "behind" {
		t.Errorf("now it is %+v, %+v", body, units)
	}
}
