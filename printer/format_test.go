package printer

import (
	"slices"
	"strings"
	"testing"

	"netwright/api"
	"netwright/parser"
)

func TestP7_3Examples(t *testing.T) {
	wantFormat(t, "module m port(a:in bit;q:out bit)is begin q<=not(a);end;", "module m port ( a : in bit ; q : out bit ) is\nbegin\n  q <= not a ;\nend ;\n")
	wantFormat(t, "-- a module\nmodule m port ( ) is -- nothing\n\n\n  begin\t\nend\r\n;-- end", "module m port ( ) is\nbegin\nend ;\n")
	wantFormat(t, "package p is const c:int:=007*(00+(1));end;", "package p is\n  const c : int := 7 * ( 0 + 1 ) ;\nend ;\n")
	wantFormat(t, "package p is end;package q is end;", "package p is\nend ;\npackage q is\nend ;\n")
	for _, s := range []string{"", " ", "\n\n", "-- end ;", "\t--\n--\r\n"} {
		wantFormat(t, s, "")
	}
}

// An else of a generate statement that has nothing in it leaves nothing, but each other one does.
func TestP7_3Else(t *testing.T) {
	wantFormat(t, "module m port ( ) is begin g : if a generate else end ; end ;", "module m port ( ) is\nbegin\n  g : if a generate\n  end ;\nend ;\n")
	wantFormat(t, "module m port ( ) is begin g : if a generate q <= a ; else end ; end ;", "module m port ( ) is\nbegin\n  g : if a generate\n    q <= a ;\n  end ;\nend ;\n")
	wantFormat(t, "module m port ( ) is begin g : if a generate else g : if b generate else end ; end ; end ;", "module m port ( ) is\nbegin\n  g : if a generate\n  else\n    g : if b generate\n    end ;\n  end ;\nend ;\n")
	wantFormat(t, inProcess.before+"if a then else end ; case a is others => end ;"+inProcess.behind, inProcess.within("if a then\nelse\nend ;\ncase a is\nothers =>\nend ;\n"))
}

// Each form, and random texts, with all kinds of gaps, with brackets and 0s that are not needed.
func TestP7_3Sources(t *testing.T) {
	m := newMaker(3)
	for _, text := range corpus() {
		words := tokensOf(t, text)
		wantFormat(t, m.spread(words), text)
		wantFormat(t, strings.Join(words, "\n"), text)
		wantFormat(t, strings.Join(words, " --;\n"), text)
		wantFormat(t, text+"--", text)
	}
	count := 0
	for seed := range uint64(1000) {
		m := newMaker(seed)
		p := m.page()
		s := m.spread(p.source)
		if len(s) > api.MaxText || len(p.text) > api.MaxText {
			continue
		}
		count++
		wantFormat(t, s, p.text)
		wantPrint(t, parsed(t, s), p.text)
	}
	if count < 300 {
		t.Errorf("only %d random texts", count)
	}
}

func TestP7_3Faults(t *testing.T) {
	for s, want := range map[string]api.Fault{
		"end":                          {Code: api.ErrSyntax, Name: "end", Line: 1, Col: 1},
		"module 3":                     {Code: api.ErrSyntax, Name: "3", Line: 1, Col: 8},
		"module m\n  port ( 007":       {Code: api.ErrSyntax, Name: "7", Line: 2, Col: 10},
		"package":                      {Code: api.ErrEnd, Line: 1, Col: 8},
		"package p is end ; -- ;\n  m": {Code: api.ErrSyntax, Name: "m", Line: 2, Col: 3},
		"package p is end ;\n!":        {Code: api.ErrLex, Name: "!", Line: 2, Col: 1},
		"package 12a":                  {Code: api.ErrLex, Name: "1", Line: 1, Col: 9},
		"module m port ( ) is\nbegin\n  l : process is\n  begin\n    " + strings.Repeat("if a then ", api.MaxNest+1):      {Code: api.ErrDeep, Name: "if", Line: 5, Col: 5 + 10*api.MaxNest},
		"module m port ( ) is\nbegin\n  " + strings.Repeat("g : if a generate ", api.MaxNest+1):                           {Code: api.ErrDeep, Name: "g", Line: 3, Col: 3 + 18*api.MaxNest},
		"package p is const c : t := " + strings.Repeat("(", api.MaxNest+1):                                               {Code: api.ErrDeep, Name: "(", Line: 1, Col: 29 + api.MaxNest},
		"package p is type t is ( ) ; end ;":                                                                              {Code: api.ErrSyntax, Name: ")", Line: 1, Col: 26},
		strings.Repeat(" ", api.MaxText+1):                                                                                {Code: api.ErrLimit},
		strings.Repeat("!", api.MaxText+1):                                                                                {Code: api.ErrLimit},
		"package p is end ;" + strings.Repeat("\n", api.MaxText-17):                                                       {Code: api.ErrLimit},
		"package p is end ;" + strings.Repeat("-", api.MaxText-17):                                                        {Code: api.ErrLimit},
		"package p is " + strings.Repeat("use u;", 3000) + "end ; end":                                                    {Code: api.ErrSyntax, Name: "end", Line: 1, Col: 18020},
		"package p is " + strings.Repeat("use u;", 3000) + "end ; \"":                                                     {Code: api.ErrLex, Name: "\"", Line: 1, Col: 18020},
		"package p is " + strings.Repeat("use u;", 3000) + "end":                                                          {Code: api.ErrEnd, Line: 1, Col: 18017},
		"module m port ( ) is begin l : process is begin if a then null ; else if b then null ; elsif c then end ; end ;": {Code: api.ErrEnd, Line: 1, Col: 112},
	} {
		wantFault(t, s, want)
	}
}

// Strings that are like the texts, with a token left out, doubled or exchanged, have the faults of the parser.
func TestP7_3ParserFaults(t *testing.T) {
	m := newMaker(4)
	faults := map[api.Errno]int{}
	for _, text := range corpus() {
		words := tokensOf(t, text)
		for range min(9, len(words)) {
			i := m.IntN(len(words))
			other := m.oneOf("end", ";", "is", "(", ")", "a", "7", "else", "!", "\"", "begin", ":=", "<=", ",", "not")
			for _, s := range []string{
				strings.Join(slices.Delete(slices.Clone(words), i, i+1), " "), strings.Join(slices.Insert(slices.Clone(words), i, words[i]), "\n"),
				strings.Join(slices.Replace(slices.Clone(words), i, i+1, other), " "), strings.Join(words[:i], " "),
			} {
				l, want := parser.Parse(s)
				faults[want.Code]++
				if want.Code != api.OK {
					wantFault(t, s, want)
				} else if text, fault := Format(s); !parser.Same(parsed(t, text), l) || fault != want {
					t.Errorf("Format(%q) = %q, fault %v", s, text, fault)
				}
			}
		}
	}
	for _, code := range []api.Errno{api.OK, api.ErrLex, api.ErrSyntax, api.ErrEnd} {
		if faults[code] < 100 {
			t.Errorf("only %d strings with the fault %d", faults[code], code)
		}
	}
}

// A string that is short enough may have a text that is too long.
func TestP7_3Limit(t *testing.T) {
	for size := api.MaxText - 2; size <= api.MaxText+2; size++ {
		for _, text := range longTexts(size) {
			s := strings.Join(strings.Fields(text), " ")
			if len(s) > api.MaxText {
				t.Fatalf("a string of %d bytes", len(s))
			}
			if size <= api.MaxText {
				wantFormat(t, s, text)
				wantFormat(t, s+strings.Repeat("\n", api.MaxText-len(s)), text)
			} else {
				wantFault(t, s, api.Fault{Code: api.ErrLimit})
				wantFault(t, s+"\n!", api.Fault{Code: api.ErrLex, Name: "!", Line: 2, Col: 1})
			}
		}
	}
	wantFault(t, "package p is "+strings.Repeat("use u;", 3000)+"end;", api.Fault{Code: api.ErrLimit})
	wantFault(t, strings.Repeat("package p is end;", 1100), api.Fault{Code: api.ErrLimit})
	wantFault(t, "package p is "+strings.Repeat("function f(a:t)return t is ", 400)+strings.Repeat("begin end;", 400)+"end;", api.Fault{Code: api.ErrLimit})
}
